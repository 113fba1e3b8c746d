/-
  Match.
-/
import Derived.Test.YtmkoleioipklpaaSrt
import Derived.Test.YtmkoleioipklpaaRep
namespace Go.Proofs.Ytmkoleioipklpaa
open Go.RowKit
set_option linter.unusedVariables false
set_option linter.unusedSimpArgs false
theorem Pn.at {w : World} {v : Value} {P : List (Nat × Nat)} {a : Option Addr} {n cap : Nat} (h : Rd 2 prCs w v P) (hv : v = .slice a n cap) {i : Nat} {q : Nat × Nat} (hi : P[i]? = some q) :
    ∃ g o, a = some ⟨g, o, none⟩ ∧ g < w.heap.size ∧ w.cell? ⟨g, o + i * 2, none⟩ = some (.int .i64 (q.1 : Nat)) ∧ w.cell? ⟨g, o + i * 2 + 1, none⟩ = some (.int .i64 (q.2 : Nat)) := by
  obtain ⟨a', cap', e, -, -, -, hat⟩ := h
  rw [hv] at e
  injection e with e1
  subst e1
  obtain ⟨g, o, e1, e2, e3⟩ := hat i q hi
  exact ⟨g, o, e1, e2, e3 0 _ rfl, e3 1 _ rfl⟩
theorem info4n : (Try.prog.info? 4).map (fun i => (i.zero, i.size, i.bytes)) = some (some (.bool false), 1, 1) := by kernel_rfl
theorem bv_rep (n : Nat) : bv (List.replicate n false) = List.replicate n (.bool false) := by simp [bv]
theorem iv_rep (n : Nat) (z : Int) : iv (List.replicate n z) = List.replicate n (.int .i64 z) := by simp [iv]
theorem make_bools (n : Nat) (hn : n ≤ 16384) (w : World) : (Instr.makeSlice 44 (.int .i64 (n : Nat)) (.int .i64 (n : Nat))).run Try.prog w = .ok (.slice (some ⟨w.heap.size, 0, none⟩) n n) (w.alloc (.cells (bv (List.replicate n false)).toArray 4)) := by
  have := run_make_row' (P := Try.prog) 44 4 (.bool false) 1 Try.underlying44 info4n rfl .i64 .i64 n (by omega) (by omega) w
  rw [made_list] at this
  rw [bv_rep, List.toArray_replicate]
  exact this
theorem Ir.nil (w : World) : Ir w (.slice none 0 0) [] := Rw.rd iCs_len (Rw.nil 3 1 iCs w) (by simp)
/-- What a match is. -/
def MtR (U P : List (Int × Int)) (M : List Int) (E : Int) : Prop :=
  (rfs U P ≠ 0 ∧ M = [] ∧ E = rfs U P) ∨ (rfs U P = 0 ∧ E = 0 ∧ ∃ G, Grd U.length (ltD (dst U P)) G ∧ G.length = U.length ∧ M = mF U.length G)
theorem MtR.one {U P : List (Int × Int)} {M N : List Int} {E F : Int} (h : MtR U P M E) (k : MtR U P N F) : M = N ∧ E = F := by
  rcases h with ⟨h0, rfl, rfl⟩ | ⟨h0, rfl, G, h1, h2, rfl⟩
  · rcases k with ⟨k0, rfl, rfl⟩ | ⟨k0, -⟩
    · exact ⟨rfl, rfl⟩
    · exact absurd k0 h0
  · rcases k with ⟨k0, -⟩ | ⟨k0, rfl, H, k1, k2, rfl⟩
    · exact absurd h0 k0
    · rw [h1.one (ltD_ord _) k1 (h2.trans k2.symm)]
      exact ⟨rfl, rfl⟩
/-- What Match tells. -/
def MtE (w : World) (U P : List (Int × Int)) (e : Ending) (w' : World) : Prop :=
  ∃ v E M, e = .returned (.tuple #[v, .int .i64 E]) ∧ Below w.heap.size w w' ∧ Ir w' v M ∧ (∀ g, v.ownBlock = some g → w.heap.size ≤ g) ∧ MtR U P M E
/-- The loop through the pairs. -/
structure MLp (w0 w : World) (lt : Nat × Nat → Nat × Nat → Prop) (n : Nat) (L : List (Nat × Nat)) (v : Value) (Bm Bt k : Nat) (G : List (Nat × Nat)) : Prop where
  gdy : Gdy n lt L k G
  km : Bk w Bm 3 (iv (mF n G))
  kt : Bk w Bt 4 (bv (tF n G))
  row : Pn w v L
  bel : Below w0.heap.size w0 w
theorem MLp.upto {w0 w w' : World} {lt : Nat × Nat → Nat × Nat → Prop} {n : Nat} {L : List (Nat × Nat)} {v : Value} {Bm Bt k : Nat} {G : List (Nat × Nat)} (h : MLp w0 w lt n L v Bm Bt k G) (hb : Below w.heap.size w w') : MLp w0 w' lt n L v Bm Bt k G :=
  ⟨h.gdy, h.km.upto hb, h.kt.upto hb, Rw.upto h.row hb, h.bel.trans (hb.mono h.bel.size)⟩
set_option maxRecDepth 100000 in
set_option maxHeartbeats 8000000 in
theorem match_is (us ps : Value) (U P : List (Int × Int)) (w : World) (hu : CeR w us U) (hp : CeR w ps P) : Calls Try.prog 8 #[us, ps] w (MtE w U P) := by
  obtain ⟨au, cu, rfl, hcu, hmu⟩ := hu.slice
  obtain ⟨ap, cp, rfl, hcp, hmp⟩ := hp.slice
  by_cases h0 : rfs U P = 0
  case neg =>
    have HR := hide (refusal_any _ _ U P w hu hp)
    obtain ⟨E, hE⟩ : ∃ E, rfs U P = E := ⟨_, rfl⟩
    have HE := hide hE
    rw [hE] at HR h0
    clear hu hp
    go_enter Try.func8, Try.ntmps8
    go_wp2_with fail
    refine HR.out.mono ?_
    rintro e w1 ⟨rfl, hb1⟩
    have HB1 := hide hb1
    clear hb1
    go_wp2_with fail
    refine bodyPost_ret (v := .tuple #[.slice none 0 0, .int .i64 E]) (by simp [results, Try.results8, go_sem]) rfl ?_
    exact ⟨_, _, [], rfl, HB1.out, Ir.nil _, (fun g e => by cases e), .inl ⟨by rw [HE.out]; exact h0, rfl, HE.out.symm⟩⟩
  obtain ⟨hn, hl, -, -⟩ := rfs_ok h0
  have HR := hide (refusal_any _ _ U P w hu hp)
  have HF := hide h0
  have HH := hide (And.intro hu hp)
  rw [h0] at HR
  obtain ⟨n, hnn⟩ : ∃ n, U.length = n := ⟨_, rfl⟩
  rw [hl] at hcp hmp HR HH ⊢
  rw [hnn] at hn hcu hmu hcp hmp HR HH hl ⊢
  have HL := hide (And.intro hnn hl)
  clear hu hp h0 hnn hl
  have hn63 : ((n : Nat) : Int) ≤ 64 := by omega
  go_enter Try.func8, Try.ntmps8
  go_wp2_with fail
  refine HR.out.mono ?_
  rintro e w1 ⟨rfl, hb1⟩
  have HB1 := hide hb1
  clear hb1 HR
  go_wp2_with fail
  refine (pairsof_is n hn w1).mono ?_
  rintro e w2 ⟨a2, c2, rfl, hP2, ho2, hb2⟩
  have HB2 := hide (bt HB1.out hb2)
  have HP2 := hide (And.intro hP2 ho2)
  clear hP2 ho2 hb2
  go_wp2_with fail
  refine (orderof_is _ _ U P n hn HL.out.1 HL.out.2 w2 (HH.out.1.kept HB2.out) (HH.out.2.kept HB2.out)).mono ?_
  rintro e w3 ⟨D, A, B, va, rfl, hE3, ⟨hD, hA, hB, hva⟩, hb3⟩
  have HB3 := hide (bt HB2.out hb3)
  have hP3 := Rw.upto HP2.out.1 hb3
  have hlt2 : ∀ g, (Value.slice a2 (n * n) c2).ownBlock = some g → g < w2.heap.size := fun g hg => (HP2.out.1.lt g hg).2
  have HS := hide (sorted_is hE3 hP3 (fun g hg => ⟨fun e => absurd (hlt2 g hg) (by omega), fun e => absurd (hlt2 g hg) (by omega), fun e => absurd (hlt2 g hg) (by omega), fun e => absurd (hlt2 g hg) (by have := hva g e; omega)⟩))
  have HO := hide (show ∀ g, (Value.slice a2 (n * n) c2).ownBlock = some g → w.heap.size ≤ g from fun g hg => Nat.le_trans HB1.out.size (HP2.out.2 g hg))
  clear hE3 hD hA hB hva hb3 hP3 hlt2
  go_wp2_with fail
  refine HS.out.mono ?_
  rintro e w4 ⟨rfl, L, hperm, hsrt, hP4, hT4⟩
  have HB4 := hide (HB3.out.trans (hT4.below (B := w.heap.size) (fun g hg => HO.out g hg) HB3.out.size))
  have HP4 := hide hP4
  have HQ := hide (And.intro hperm hsrt)
  clear hP4 hT4 hperm hsrt HS HP2
  obtain ⟨X, hX⟩ : ∃ X, w4.alloc (.cells #[.int .i64 (-1)] 3) = X := ⟨_, rfl⟩
  have BX : Below w4.heap.size w4 X := by rw [← hX]; exact box1 _ _
  have KX : Bk X w4.heap.size 3 [.int .i64 (-1)] := by rw [← hX]; exact Bk.new _ _ _
  have HX := hide hX
  have HRp := hide (repeat_is w4.heap.size (-1) n (by omega) X (KX.cell 0 _ rfl) KX.lt)
  have HBX := hide (bt HB4.out BX)
  have HPX := hide (Rw.upto HP4.out BX)
  clear hX BX KX
  go_wp2_with (rw [HX.out])
  refine HRp.out.mono ?_
  rintro e w5 ⟨rfl, hk5, hb5⟩
  have HP5 := hide (Rw.upto HPX.out hb5)
  have HB5 := hide (bt HBX.out hb5)
  have hmk := make_bools n (by omega) w5
  have b6 := box1 w5 (.cells (bv (List.replicate n false)).toArray 4)
  obtain ⟨Y, hY⟩ : ∃ Y, w5.alloc (.cells (bv (List.replicate n false)).toArray 4) = Y := ⟨_, rfl⟩
  have kt6 : Bk Y w5.heap.size 4 (bv (List.replicate n false)) := by rw [← hY]; exact Bk.new _ _ _
  have km5 : Bk w5 X.heap.size 3 (iv (mF n [])) := by rw [mF_nil, iv_rep]; show w5.heap[X.heap.size]? = _; rw [hk5]; simp [repL]
  rw [hY] at hmk b6
  have hlo : w.heap.size ≤ X.heap.size ∧ w.heap.size ≤ w5.heap.size := ⟨HBX.out.size, HB5.out.size⟩
  have R0 : MLp w Y (ltD (dst U P)) n L (.slice a2 (n * n) c2) X.heap.size w5.heap.size 0 [] := ⟨Gdy.zero, km5.upto b6, by rw [tF_nil]; exact kt6, Rw.upto HP5.out b6, bt HB5.out b6⟩
  have hmn : L.length = n * n := by rw [HQ.out.1.length_eq, allP_len]
  have hsq : n * n ≤ 4096 := Nat.mul_le_mul hn hn
  have HR0 := hide R0
  have HLO := hide hlo
  have HMK := hide hmk
  obtain ⟨Bm, hBm⟩ : ∃ g, X.heap.size = g := ⟨_, rfl⟩
  obtain ⟨Bt, hBt⟩ : ∃ g, w5.heap.size = g := ⟨_, rfl⟩
  obtain ⟨m, hm⟩ : ∃ m, n * n = m := ⟨_, rfl⟩
  rw [hBm] at HR0 HLO ⊢
  rw [hBt] at HR0 HLO HMK
  rw [hm] at HR0 hmn hsq HO ⊢
  have HZ := hide hmn
  clear hk5 hb5 hmk b6 hY kt6 km5 hlo R0 HP5 HB5 HRp HBX HPX HX HP4 HB4 hBm hm HB1 HB2 HB3 hmn
  go_wp2_with (rw [HMK.out])
  go_loopw [35] (fun s35 wr => ∃ k : Nat, k ≤ m ∧ s35 = .int .i64 k ∧ ∃ G, MLp w wr (ltD (dst U P)) n L (.slice a2 m c2) Bm Bt k G) (fun s35 _ => m - (intOf s35).toNat)
  case atStart => exact ⟨0, Nat.zero_le _, rfl, _, HR0.out⟩
  case round =>
    obtain ⟨k, hk, rfl, G, hR⟩ := hrel
    clear HR0 HMK hBt
    by_cases hlt : k < m
    · have hki : (k : Int) < (m : Nat) := by omega
      obtain ⟨q, hq⟩ : ∃ q, L[k]? = some q := ⟨_, List.getElem?_eq_getElem (by rw [HZ.out]; omega)⟩
      have hin : InN n q := mem_allP.1 (HQ.out.1.mem_iff.1 (List.mem_of_getElem? hq))
      obtain ⟨g, o, hga, hgl, c0, c1⟩ := Pn.at (Rw.rd prCs_len hR.row hR.row.cap) rfl hq
      subst hga
      obtain ⟨x, hx⟩ : ∃ x, (mF n G)[q.1]? = some x := ⟨_, List.getElem?_eq_getElem (by rw [mF_len]; exact hin.1)⟩
      obtain ⟨b, hb, -⟩ := tF_get (n := n) G hin.2
      have hfree := free_iff hin hx hb
      obtain ⟨u, p⟩ := q
      dsimp only at hx hb c0 c1
      have hu : u < n := hin.1
      have hp : p < n := hin.2
      have hui : (u : Int) < (n : Nat) := by omega
      have hpi : (p : Int) < (n : Nat) := by omega
      obtain ⟨X, hX⟩ : ∃ X, wr.alloc (.cells #[.int .i64 (u : Nat), .int .i64 (p : Nat)] 40) = X := ⟨_, rfl⟩
      have BX : Below wr.heap.size wr X := by rw [← hX]; exact box1 _ _
      have KX : Bk X wr.heap.size 40 (prCs (u, p)) := by rw [← hX]; exact Bk.new _ _ _
      have RX := hR.upto BX
      have x0 := KX.cell 0 _ rfl
      have x1 := KX.cell 1 _ rfl
      have xm := RX.km.cell u _ (iv_at hx)
      have xt := RX.kt.cell p _ (bv_at hb)
      have HRX := hide RX
      have HKX := hide KX
      have HIN := hide hin
      have HQK := hide hq
      obtain ⟨T, hT⟩ : ∃ T, wr.heap.size = T := ⟨_, rfl⟩
      rw [hT] at HKX x0 x1
      by_cases hfr : x = -1 ∧ b = false
      · obtain ⟨rfl, rfl⟩ := hfr
        have HFr := hide (hfree.2 ⟨rfl, rfl⟩)
        have HXB := hide (And.intro hx hb)
        clear hR hgl hx hb hfree hin BX KX RX
        go_wp2_with (rw [hX])
        refine wp_only ?_
        obtain ⟨Y, hY⟩ : ∃ Y, X.drew = Y := ⟨_, rfl⟩
        have BY : Below X.heap.size X Y := by rw [← hY]; exact (Below.refl _ _).drew
        have RY := HRX.out.upto BY
        have KY := HKX.out.upto BY
        have hTm : ¬ Bm = T := fun e => absurd (RY.km.one (by rw [e]; exact KY)).1 (by decide)
        have hTt : ¬ Bt = T := fun e => absurd (RY.kt.one (by rw [e]; exact KY)).1 (by decide)
        have hmt : ¬ Bm = Bt := fun e => absurd (RY.km.one (by rw [e]; exact RY.kt)).1 (by decide)
        obtain ⟨Z, hZ⟩ : ∃ Z, Y.setCell ⟨Bm, u, none⟩ (.int .i64 (p : Nat)) = Z := ⟨_, rfl⟩
        have TZ : Turns (fun g => Bm = g) Y Z := by rw [← hZ]; exact Turns.set (p := ⟨Bm, u, none⟩) _ rfl _
        have KmZ : Bk Z Bm 3 (iv (mF n (G ++ [(u, p)]))) := by rw [mF_snoc, ← iv_set, ← hZ]; exact RY.km.set u _
        have KtZ := RY.kt.kept TZ hmt
        have RowZ := Rw.kept RY.row TZ (fun g hg e => RY.row.off RY.km (by decide) (by rw [e]; exact hg))
        have KZ := KY.kept TZ hTm
        have HT : Hid (∀ wx, wx = Y ∨ wx = Z → Bk wx T 40 (prCs (u, p))) := hide fun wx hx => by
          rcases hx with rfl | rfl
          · exact KY
          · exact KZ
        have m0 := RY.km.cell u _ (iv_at HXB.out.1)
        have f0 := RY.km.frozen u
        have t0 := KtZ.cell p _ (bv_at HXB.out.2)
        have ft0 := KtZ.frozen p
        obtain ⟨W, hW⟩ : ∃ W, Z.setCell ⟨Bt, p, none⟩ (.bool true) = W := ⟨_, rfl⟩
        have TW : Turns (fun g => Bt = g) Z W := by rw [← hW]; exact Turns.set (p := ⟨Bt, p, none⟩) _ rfl _
        have KtW : Bk W Bt 4 (bv (tF n (G ++ [(u, p)]))) := by rw [tF_snoc, ← bv_set, ← hW]; exact KtZ.set p _
        have hBZ : Below w.heap.size w Z := RY.bel.trans (TZ.below (fun g e => by rw [← e]; exact HLO.out.1) RY.bel.size)
        have HW : Hid (MLp w W (ltD (dst U P)) n L (.slice (some ⟨g, o, none⟩) m c2) Bm Bt (k + 1) (G ++ [(u, p)])) := hide ⟨RY.gdy.take (ltD_ord _) HQ.out.1 HQ.out.2 HQK.out HFr.out, KmZ.kept TW (fun e => hmt e.symm), KtW, Rw.kept RowZ TW (fun g hg e => RowZ.off KtZ (by decide) (by rw [e]; exact hg)), hBZ.trans (TW.below (fun g e => by rw [← e]; exact HLO.out.2) hBZ.size)⟩
        have HZ' := hide hZ
        have HW' := hide hW
        refine wp_region_z (fun wx : World => wx = Y ∨ wx = Z) [11] (by kernel_rfl) ?_
        rw [hY]
        clear hZ hW hY BY RY KY hTm hTt TZ KmZ KtZ RowZ KZ TW KtW hBZ x0 x1 xm xt hX HRX HKX hmt
        refine zx 0 9 13 rfl (by kernel_rfl) (.inl rfl) ?_
        iterate 9 (refine zxc rfl (by rfl) (fun wx hx => by have k1 := HT.out wx hx; have c0 := k1.cell 0 _ rfl; have c1 := k1.cell 1 _ rfl; go_simp; rfl) ?_; simp only [zp])
        refine zxn ?_
        refine zw 9 [] (by kernel_rfl) ?_
        refine readyZ.skip rfl rfl (w' := Z) (by rw [← HZ'.out]; go_simp) (fun _ => .inr rfl) ?_ readyZ.nil
        simp only [zp]
        refine zx 10 1 13 rfl (by kernel_rfl) (.inr rfl) ?_
        refine zxc rfl (by rfl) (fun wx hx => by go_simp; rfl) ?_; simp only [zp]
        refine zxn ?_
        refine zw 11 [] (by kernel_rfl) ?_
        refine readyZ.skip rfl rfl (w' := W) (by rw [← HW'.out]; go_simp) (fun hh => absurd (by decide) hh) ?_ readyZ.nil
        simp only [zp]
        refine anyZ_done (by kernel_rfl) ?_ _
        dsimp only [Only, Exit.then]
        go_wp2_with fail
        go_roundw
        case rel => exact ⟨k + 1, by omega, by go_num, _, HW.out⟩
        case measure => simp [intOf]; omega
      · have hN : ¬ Free G (u, p) := fun h => hfr (hfree.1 h)
        have HN : Hid (MLp w X (ltD (dst U P)) n L (.slice (some ⟨g, o, none⟩) m c2) Bm Bt (k + 1) G) := hide ⟨RX.gdy.skip hq hN, RX.km, RX.kt, RX.row, RX.bel⟩
        clear hR hgl hx hb hfree hin BX KX RX hN
        by_cases hx1 : x = -1
        · subst hx1
          obtain rfl : b = true := by
            cases b
            · exact absurd ⟨rfl, rfl⟩ hfr
            · rfl
          clear hfr
          go_wp2_with (rw [hX])
          go_roundw
          case rel => exact ⟨k + 1, by omega, by go_num, _, HN.out⟩
          case measure => simp [intOf]; omega
        · clear hfr
          go_wp2_with (rw [hX])
          go_roundw
          case rel => exact ⟨k + 1, by omega, by go_num, _, HN.out⟩
          case measure => simp [intOf]; omega
    · obtain rfl : k = m := by omega
      have hki : ¬ ((k : Nat) : Int) < (k : Nat) := by omega
      have HN := hide hR
      clear hR
      go_wp2_with fail
      refine bodyPost_ret (v := .tuple #[.slice (some ⟨Bm, 0, none⟩) n n, .int .i64 0]) (by simp [results, Try.results8, go_sem]) rfl ?_
      have hR := HN.out
      have hI := hR.km.ir (by rw [mF_len]; unfold maxLen; omega)
      rw [mF_len] at hI
      refine ⟨_, _, _, rfl, hR.bel, hI, (fun g e => by cases e; exact HLO.out.1), .inr ⟨HF.out, rfl, G, ?_, ?_, ?_⟩⟩
      · rw [HL.out.1]; exact hR.gdy.grd
      · rw [HL.out.1]
        have := hR.gdy
        rw [← HZ.out] at this
        exact this.full HQ.out.1
      · rw [HL.out.1]
end Go.Proofs.Ytmkoleioipklpaa
