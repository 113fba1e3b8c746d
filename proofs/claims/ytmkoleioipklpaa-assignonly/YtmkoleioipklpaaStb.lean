/-
  Stable.
-/
import Derived.Test.YtmkoleioipklpaaTot
import Derived.Deep.DeepCutAuto
namespace Go.Proofs.Ytmkoleioipklpaa
open Go.RowKit
set_option linter.unusedVariables false
set_option linter.unusedSimpArgs false
/-- Whether a list is a match that is stable. -/
def StR (U P : List (Int × Int)) (M : List Int) (b : Bool) : Prop :=
  b = true ↔ ∃ ks, rfs U P = 0 ∧ M = cast ks ∧ Once U.length ks ∧ Stb (ltD (dst U P)) ks
theorem StR.one {U P : List (Int × Int)} {M : List Int} {b c : Bool} (h : StR U P M b) (k : StR U P M c) : b = c := by
  have := h.trans k.symm
  cases b <;> cases c <;> simp_all
theorem StR.no {U P : List (Int × Int)} {M : List Int} (h : ¬ (rfs U P = 0 ∧ M.length = U.length ∧ PO U.length M)) : StR U P M false :=
  ⟨fun h => by simp at h, fun ⟨ks, h0, e, h1, _⟩ => absurd ⟨h0, by rw [e]; exact h1.po⟩ h⟩
def StE (w : World) (U P : List (Int × Int)) (M : List Int) (e : Ending) (w' : World) : Prop :=
  ∃ b, e = .returned (.bool b) ∧ Below w.heap.size w w' ∧ StR U P M b
/-- What the loop reads. -/
structure StB (w : World) (D A B : Nat) (va vp vm vw vr : Value) (n : Nat) (d : Nat → Nat → Int) (ks : List Nat) : Prop where
  env : Env w D A B va vp n d
  m : Ir w vm (cast ks)
  whose : Ir w vw (wF n ks)
  row : Rd 2 prCs w vr (allP n)
theorem StB.upto {w w' : World} {D A B : Nat} {va vp vm vw vr : Value} {n : Nat} {d : Nat → Nat → Int} {ks : List Nat} (h : StB w D A B va vp vm vw vr n d ks) (hb : Below w.heap.size w w') : StB w' D A B va vp vm vw vr n d ks :=
  ⟨h.env.upto hb, h.m.kept hb, h.whose.kept hb, h.row.kept hb⟩
theorem bad_at {n : Nat} {d : Nat → Nat → Int} {ks : List Nat} (h : Once n ks) {u p q v : Nat} (hq : ks[u]? = some q) (hv : ks[v]? = some p) : Bad (ltD d) ks u p ↔ cfN d (u, p) (u, q) < 0 ∧ cfN d (u, p) (v, p) < 0 := by
  rw [cfN_lt, cfN_lt]
  constructor
  · rintro ⟨q', v', h1, h2, h3, h4⟩
    rw [hq] at h1
    cases h1
    have := h.at h2 hv
    subst this
    exact ⟨h3, h4⟩
  · rintro ⟨h3, h4⟩
    exact ⟨q, v, hq, hv, h3, h4⟩
theorem bad_next {n : Nat} {d : Nat → Nat → Int} {ks : List Nat} {k : Nat} (h : ∀ j e, j < k → (allP n)[j]? = some e → ¬ Bad (ltD d) ks e.1 e.2) {q : Nat × Nat} (hq : (allP n)[k]? = some q) (hn : ¬ Bad (ltD d) ks q.1 q.2) : ∀ j e, j < k + 1 → (allP n)[j]? = some e → ¬ Bad (ltD d) ks e.1 e.2 := fun j e hj he => by
  rcases Nat.lt_or_ge j k with c | c
  · exact h j e c he
  · rw [show j = k by omega, hq] at he
    cases he
    exact hn
theorem bad_all {n : Nat} {d : Nat → Nat → Int} {ks : List Nat} (ho : Once n ks) {m : Nat} (hm : (allP n).length = m) (h : ∀ j e, j < m → (allP n)[j]? = some e → ¬ Bad (ltD d) ks e.1 e.2) : Stb (ltD d) ks :=
  stb_pairs (ltD_ord d) ho fun e he => by
    obtain ⟨j, hj⟩ := List.mem_iff_getElem?.1 he
    exact h j e (by rw [← hm]; exact (List.getElem?_eq_some_iff.1 hj).1) hj
set_option maxRecDepth 100000 in
set_option maxHeartbeats 8000000 in
theorem stable_is (us ps m : Value) (U P : List (Int × Int)) (M : List Int) (w : World) (hu : CeR w us U) (hp : CeR w ps P) (hm : Ir w m M) : Calls Try.prog 13 #[us, ps, m] w (StE w U P M) := by
  obtain ⟨au, cu, rfl, hcu, hmu⟩ := hu.slice
  obtain ⟨ap, cp, rfl, hcp, hmp⟩ := hp.slice
  obtain ⟨am, cm, rfl, hcm, hmm⟩ := hm.slice
  by_cases h0 : rfs U P = 0
  case neg =>
    have HR := hide (refusal_any _ _ U P w hu hp)
    obtain ⟨E, hE⟩ : ∃ E, rfs U P = E := ⟨_, rfl⟩
    have HE := hide hE
    rw [hE] at HR h0
    clear hu hp
    go_enter Try.func13, Try.ntmps13
    go_wp2_with fail
    refine HR.out.mono ?_
    rintro e w1 ⟨rfl, hb1⟩
    have HB1 := hide hb1
    clear hb1
    go_wp2_with fail
    go_ret
    exact ⟨_, rfl, HB1.out, StR.no fun h => h0 (HE.out.symm.trans h.1)⟩
  obtain ⟨hn, hl, -, -⟩ := rfs_ok h0
  have HR := hide (refusal_any _ _ U P w hu hp)
  have HF := hide h0
  have HH := hide (And.intro hu (And.intro hp hm))
  rw [h0] at HR
  obtain ⟨n, hnn⟩ : ∃ n, U.length = n := ⟨_, rfl⟩
  rw [hl] at hcp hmp HR HH ⊢
  rw [hnn] at hn hcu hmu hcp hmp HR HH hl ⊢
  have HL := hide (And.intro hnn hl)
  clear hu hp hm h0 hnn hl
  have hn63 : ((n : Nat) : Int) ≤ 64 := by omega
  go_enter Try.func13, Try.ntmps13
  go_wp2_with fail
  refine HR.out.mono ?_
  rintro e w1 ⟨rfl, hb1⟩
  have HB1 := hide hb1
  have HU := hide (unitsof_is _ M n hn w1 (HH.out.2.2.kept hb1))
  clear hb1 HR
  go_wp2_with fail
  refine HU.out.mono ?_
  rintro e w2 ⟨v2, b, rfl, hb2, ⟨a2, l2, c2, rfl⟩, -, hor⟩
  have HB2 := hide (bt HB1.out hb2)
  clear hb2
  rcases hor with ⟨rfl, hno⟩ | ⟨rfl, ks, hks, hon, hwh⟩
  · have HNO := hide hno
    clear hno
    go_wp2_with fail
    go_ret
    exact ⟨_, rfl, HB2.out, StR.no fun h => HNO.out (by rw [HL.out.1] at h; exact h.2)⟩
  subst hks
  have HON := hide hon
  have HWH := hide hwh
  have hlen : (cast ks).length = n := by rw [cast_len]; exact hon.len
  have HLK := hide hlen
  have HM2 := hide HH.out.2.2
  rw [hlen] at HM2 ⊢
  obtain ⟨a2', c2', e2, -, -⟩ := hwh.slice
  injection e2 with e2a e2b e2c
  subst e2b
  rw [wF_len] at HWH ⊢
  clear hon hlen HU HB1 hwh e2a e2c a2' c2'
  go_wp2_with fail
  refine (orderof_is _ _ U P n hn HL.out.1 HL.out.2 w2 (HH.out.1.kept HB2.out) (HH.out.2.1.kept HB2.out)).mono ?_
  rintro e w3 ⟨D, A, B, va, rfl, hE3, -, hb3⟩
  have HB3 := hide (bt HB2.out hb3)
  have HE3 := hide hE3
  have HW3 := hide (HWH.out.kept hb3)
  clear hE3 hb3
  go_wp2_with fail
  refine (pairsof_is n hn w3).mono ?_
  rintro e w4 ⟨a4, c4, rfl, hP4, -, hb4⟩
  have HB4 := hide (bt HB3.out hb4)
  have R0 := hide (show StB w4 D A B va (.slice ap n cp) (.slice am n cm) (.slice a2 n c2) (.slice a4 (n * n) c4) n (dst U P) ks from ⟨HE3.out.upto hb4, HM2.out.kept HB4.out, HW3.out.kept hb4, Rw.rd prCs_len hP4 hP4.cap⟩)
  have hsq : n * n ≤ 4096 := Nat.mul_le_mul hn hn
  have hmn : (allP n).length = n * n := allP_len n
  obtain ⟨m, hm⟩ : ∃ m, n * n = m := ⟨_, rfl⟩
  rw [hm] at R0 hsq hmn ⊢
  have HZ := hide hmn
  clear hP4 hb4 HE3 HW3 HB3 HB2 HWH hm hmn
  go_wp2_with fail
  go_loopw [34] (fun s34 wr => ∃ k : Nat, k ≤ m ∧ s34 = .int .i64 k ∧ Below w.heap.size w wr ∧ StB wr D A B va (.slice ap n cp) (.slice am n cm) (.slice a2 n c2) (.slice a4 m c4) n (dst U P) ks ∧ ∀ j e, j < k → (allP n)[j]? = some e → ¬ Bad (ltD (dst U P)) ks e.1 e.2) (fun s34 _ => m - (intOf s34).toNat)
  case atStart => exact ⟨0, Nat.zero_le _, rfl, HB4.out, R0.out, fun j e h => absurd h (Nat.not_lt_zero j)⟩
  case round =>
    obtain ⟨k, hk, rfl, hB, hR, hnone⟩ := hrel
    clear R0 HB4
    by_cases hlt : k < m
    · have hki : (k : Int) < (m : Nat) := by omega
      obtain ⟨e, he⟩ : ∃ e, (allP n)[k]? = some e := ⟨_, List.getElem?_eq_getElem (by rw [HZ.out]; omega)⟩
      have hin : InN n e := mem_allP.1 (List.mem_of_getElem? he)
      obtain ⟨g, o, hga, hgl, c0, c1⟩ := Pn.at hR.row rfl he
      subst hga
      obtain ⟨u, p⟩ := e
      have hu : u < n := hin.1
      have hp : p < n := hin.2
      dsimp only at c0 c1
      obtain ⟨q, hq⟩ : ∃ q, ks[u]? = some q := ⟨_, List.getElem?_eq_getElem (by rw [HON.out.len]; exact hu)⟩
      have hqn : q < n := HON.out.lt q (List.mem_of_getElem? hq)
      obtain ⟨y, hy⟩ : ∃ y, (wF n ks)[p]? = some y := ⟨_, List.getElem?_eq_getElem (by rw [wF_len]; exact hp)⟩
      obtain ⟨v, rfl, hv⟩ : ∃ v : Nat, y = (v : Int) ∧ ks[v]? = some p := by
        obtain ⟨h1, h2⟩ := wF_get hp hy
        obtain ⟨v, -, hv⟩ := HON.out.has hp
        have hne : ¬ y = -1 := fun e => h1.1 e (List.mem_of_getElem? hv)
        rcases h2 with h2 | ⟨h2, h3⟩
        · exact absurd h2 hne
        · exact ⟨y.toNat, by omega, h3⟩
      have hvn : v < n := by rw [← HON.out.len]; exact (List.getElem?_eq_some_iff.1 hv).1
      have HBAD := hide (bad_at (d := dst U P) HON.out hq hv)
      have HNX := hide (bad_next hnone he)
      have HIN := hide (And.intro (And.intro hu hp) (And.intro hqn hvn))
      obtain ⟨X, hX⟩ : ∃ X, wr.alloc (.cells #[.int .i64 (u : Nat), .int .i64 (p : Nat)] 40) = X := ⟨_, rfl⟩
      have BX : Below wr.heap.size wr X := by rw [← hX]; exact box1 _ _
      have KX : Bk X wr.heap.size 40 (prCs (u, p)) := by rw [← hX]; exact Bk.new _ _ _
      have HRX := hide (hR.upto BX)
      have HBX := hide (bt hB BX)
      obtain ⟨T, hT⟩ : ∃ T, wr.heap.size = T := ⟨_, rfl⟩
      rw [hT] at KX
      have HKX := hide KX
      have hui : (u : Int) < (n : Nat) := by omega
      have hpi : (p : Int) < (n : Nat) := by omega
      have HQV := hide (And.intro (cast_get hq) hy)
      have HX := hide hX
      clear hB hR hnone BX KX hq hv hy hX he hin
      go_upto_region 10 with (rw [HX.out])
      go_cut [12, 13] (fun s12 s13 wx => ∃ gx gy, s12 = ptr gx ∧ s13 = ptr gy ∧ Bk wx gx 40 (prCs (u, q)) ∧ Bk wx gy 40 (prCs (v, p)) ∧ Below X.heap.size X wx)
      case first =>
        obtain ⟨Y, hY⟩ : ∃ Y, X.drew = Y := ⟨_, rfl⟩
        have BY : Below X.heap.size X Y := by rw [← hY]; exact (Below.refl _ _).drew
        have RY := HRX.out.upto BY
        have KY := HKX.out.upto BY
        obtain ⟨g1, o1, hg1, hgl1, m0⟩ := Ir.at RY.m rfl HQV.out.1
        obtain ⟨g2, o2, hg2, hgl2, w0⟩ := Ir.at RY.whose rfl HQV.out.2
        subst hg1
        subst hg2
        have HT : Hid (∀ wx, Below Y.heap.size Y wx → Bk wx T 40 (prCs (u, p)) ∧ wx.cell? ⟨g1, o1 + u, none⟩ = some (.int .i64 (q : Nat)) ∧ wx.cell? ⟨g2, o2 + p, none⟩ = some (.int .i64 (v : Nat))) := hide fun wx hb =>
          ⟨KY.upto hb, (hb.cell (p := ⟨g1, o1 + u, none⟩) hgl1).trans m0, (hb.cell (p := ⟨g2, o2 + p, none⟩) hgl2).trans w0⟩
        have HY := hide hY
        have HBY := hide BY
        clear hY BY RY KY m0 w0 hgl1 hgl2 hgl c0 c1
        refine wp_only ?_
        refine wp_region_z (fun wx : World => Below Y.heap.size Y wx) [19] (by kernel_rfl) ?_
        rw [HY.out]
        refine zx 0 16 20 rfl (by kernel_rfl) (Below.refl _ _) ?_
        iterate 16 (refine zxc rfl (by rfl) (fun wx hx => by obtain ⟨k1, k2, k3⟩ := HT.out wx hx; have c0 := k1.cell 0 _ rfl; have c1 := k1.cell 1 _ rfl; go_simp; rfl) ?_; simp only [zp])
        refine zxn ?_
        obtain ⟨V, hV⟩ : ∃ V, Y.alloc (.cells #[.int .i64 0, .int .i64 0] 40) = V := ⟨_, rfl⟩
        have BV : Below Y.heap.size Y V := by rw [← hV]; exact box1 _ _
        have KV : Bk V Y.heap.size 40 [.int .i64 0, .int .i64 0] := by rw [← hV]; exact Bk.new _ _ _
        obtain ⟨V2, hV2⟩ : ∃ V2, V.alloc (.cells #[.int .i64 0, .int .i64 0] 40) = V2 := ⟨_, rfl⟩
        have BV2 : Below V.heap.size V V2 := by rw [← hV2]; exact box1 _ _
        have KV2 : Bk V2 V.heap.size 40 [.int .i64 0, .int .i64 0] := by rw [← hV2]; exact Bk.new _ _ _
        have KV1 := KV.upto BV2
        obtain ⟨g1', hgg1⟩ : ∃ g, Y.heap.size = g := ⟨_, rfl⟩
        obtain ⟨g2', hgg2⟩ : ∃ g, V.heap.size = g := ⟨_, rfl⟩
        have BYV2 : Below Y.heap.size Y V2 := bt BV BV2
        have hle : Y.heap.size ≤ g1' ∧ Y.heap.size ≤ g2' := ⟨by rw [← hgg1]; exact Nat.le_refl _, by rw [← hgg2]; exact BV.size⟩
        have hXY := HBY.out.size
        have hne : g1' ≠ g2' := by
          rw [← hgg1, ← hgg2, ← hV]
          simp
        have HV := hide hV
        have HV2 := hide hV2
        have BV2X : Below X.heap.size X V2 := HBY.out.trans (BYV2.mono HBY.out.size)
        have HS := hide (And.intro BV (And.intro BYV2 (And.intro BV2X (And.intro hle hne))))
        rw [hgg1] at KV1
        rw [hgg2] at KV2
        have HG := hide (And.intro hgg1 hgg2)
        have HK := hide (And.intro KV1 KV2)
        clear hV hV2 BV KV BV2 KV2 KV1 BYV2 hle hne BV2X hgg1 hgg2
        refine zw 16 [17] (by kernel_rfl) ?_
        refine readyZ.cons rfl rfl (v' := ptr g1') (w' := V) (by rw [← HV.out, ← HG.out.1]; go_simp) (fun _ => HS.out.1) ?_ (readyZ.cons rfl rfl (v' := ptr g1') (w' := V) (by rw [← HV.out, ← HG.out.1]; go_simp) (fun _ => HS.out.1) ?_ readyZ.nil)
        · simp only [zp]
          refine zw 17 [] (by kernel_rfl) ?_
          refine readyZ.cons rfl rfl (v' := ptr g2') (w' := V2) (by rw [← HV2.out, ← HG.out.2]; go_simp) (fun _ => HS.out.2.1) ?_ readyZ.nil
          simp only [zp]
          have Kx := HK.out.1
          have Ky := HK.out.2
          have hne : ¬ g1' = g2' := HS.out.2.2.2.2
          obtain ⟨Z, hZ⟩ : ∃ Z, (V2.setCell ⟨g1', 0, none⟩ (.int .i64 (u : Nat))).setCell ⟨g1', 1, none⟩ (.int .i64 (q : Nat)) = Z := ⟨_, rfl⟩
          have TZ : Turns (fun g => g1' = g) V2 Z := by rw [← hZ]; exact (Turns.set (p := ⟨g1', 0, none⟩) _ rfl _).trans (Turns.set (p := ⟨g1', 1, none⟩) _ (.inl rfl) _)
          have KxZ : Bk Z g1' 40 (prCs (u, q)) := by rw [← hZ]; exact (Kx.set 0 _).set 1 _
          have KyZ := Ky.kept TZ hne
          obtain ⟨W, hW⟩ : ∃ W, (Z.setCell ⟨g2', 0, none⟩ (.int .i64 (v : Nat))).setCell ⟨g2', 1, none⟩ (.int .i64 (p : Nat)) = W := ⟨_, rfl⟩
          have TW : Turns (fun g => g2' = g) Z W := by rw [← hW]; exact (Turns.set (p := ⟨g2', 0, none⟩) _ rfl _).trans (Turns.set (p := ⟨g2', 1, none⟩) _ (.inl rfl) _)
          have KyW : Bk W g2' 40 (prCs (v, p)) := by rw [← hW]; exact (KyZ.set 0 _).set 1 _
          have KxW := KxZ.kept TW (fun e => hne e.symm)
          have BYZ : Below Y.heap.size Y Z := HS.out.2.1.trans (TZ.below (fun g e => by rw [← e]; exact HS.out.2.2.2.1.1) HS.out.2.1.size)
          have BZ : Below X.heap.size X Z := HBY.out.trans (BYZ.mono hXY)
          have HYZ := hide BYZ
          have BW : Below X.heap.size X W := BZ.trans (TW.below (fun g e => by rw [← e]; exact Nat.le_trans hXY HS.out.2.2.2.1.2) BZ.size)
          have HE := hide (And.intro KxW (And.intro KyW BW))
          have c0 := Kx.cell 0 _ rfl
          have c1 := Kx.cell 1 _ rfl
          have f0 := Kx.frozen 0
          have f1 := Kx.frozen 1
          have d0 := KyZ.cell 0 _ rfl
          have d1 := KyZ.cell 1 _ rfl
          have e0 := KyZ.frozen 0
          have e1 := KyZ.frozen 1
          clear Kx Ky TZ KxZ KyZ TW KyW KxW BZ BW BYZ
          refine zw 18 [] (by kernel_rfl) ?_
          refine readyZ.skip rfl rfl (w' := Z) (by rw [← hZ]; go_simp) (fun _ => HYZ.out) ?_ readyZ.nil
          simp only [zp]
          clear c0 c1 f0 f1
          refine zw 19 [] (by kernel_rfl) ?_
          refine readyZ.skip rfl rfl (w' := W) (by rw [← hW]; go_simp) (fun hh => absurd (by decide) hh) ?_ readyZ.nil
          simp only [zp]
          refine anyZ_done (by kernel_rfl) ?_ _
          dsimp only [Only, Exit.then]
          clear d0 d1 e0 e1 hZ hW
          go_wp2_with fail
          go_meet
          exact ⟨_, _, rfl, rfl, HE.out.1, HE.out.2.1, HE.out.2.2⟩
        · simp only [zp]
          refine zw 16 [] (by kernel_rfl) ?_
          refine readyZ.cons rfl rfl (v' := ptr g2') (w' := V2) (by rw [← HV2.out, ← HG.out.2]; go_simp) (fun _ => HS.out.2.1) ?_ readyZ.nil
          simp only [zp]
          have Kx := HK.out.2
          have Ky := HK.out.1
          have hne : ¬ g2' = g1' := fun e => HS.out.2.2.2.2 e.symm
          obtain ⟨Z, hZ⟩ : ∃ Z, (V2.setCell ⟨g2', 0, none⟩ (.int .i64 (u : Nat))).setCell ⟨g2', 1, none⟩ (.int .i64 (q : Nat)) = Z := ⟨_, rfl⟩
          have TZ : Turns (fun g => g2' = g) V2 Z := by rw [← hZ]; exact (Turns.set (p := ⟨g2', 0, none⟩) _ rfl _).trans (Turns.set (p := ⟨g2', 1, none⟩) _ (.inl rfl) _)
          have KxZ : Bk Z g2' 40 (prCs (u, q)) := by rw [← hZ]; exact (Kx.set 0 _).set 1 _
          have KyZ := Ky.kept TZ hne
          obtain ⟨W, hW⟩ : ∃ W, (Z.setCell ⟨g1', 0, none⟩ (.int .i64 (v : Nat))).setCell ⟨g1', 1, none⟩ (.int .i64 (p : Nat)) = W := ⟨_, rfl⟩
          have TW : Turns (fun g => g1' = g) Z W := by rw [← hW]; exact (Turns.set (p := ⟨g1', 0, none⟩) _ rfl _).trans (Turns.set (p := ⟨g1', 1, none⟩) _ (.inl rfl) _)
          have KyW : Bk W g1' 40 (prCs (v, p)) := by rw [← hW]; exact (KyZ.set 0 _).set 1 _
          have KxW := KxZ.kept TW (fun e => hne e.symm)
          have BYZ : Below Y.heap.size Y Z := HS.out.2.1.trans (TZ.below (fun g e => by rw [← e]; exact HS.out.2.2.2.1.2) HS.out.2.1.size)
          have BZ : Below X.heap.size X Z := HBY.out.trans (BYZ.mono hXY)
          have HYZ := hide BYZ
          have BW : Below X.heap.size X W := BZ.trans (TW.below (fun g e => by rw [← e]; exact Nat.le_trans hXY HS.out.2.2.2.1.1) BZ.size)
          have HE := hide (And.intro KxW (And.intro KyW BW))
          have c0 := Kx.cell 0 _ rfl
          have c1 := Kx.cell 1 _ rfl
          have f0 := Kx.frozen 0
          have f1 := Kx.frozen 1
          have d0 := KyZ.cell 0 _ rfl
          have d1 := KyZ.cell 1 _ rfl
          have e0 := KyZ.frozen 0
          have e1 := KyZ.frozen 1
          clear Kx Ky TZ KxZ KyZ TW KyW KxW BZ BW BYZ
          refine zw 18 [] (by kernel_rfl) ?_
          refine readyZ.skip rfl rfl (w' := Z) (by rw [← hZ]; go_simp) (fun _ => HYZ.out) ?_ readyZ.nil
          simp only [zp]
          clear c0 c1 f0 f1
          refine zw 19 [] (by kernel_rfl) ?_
          refine readyZ.skip rfl rfl (w' := W) (by rw [← hW]; go_simp) (fun hh => absurd (by decide) hh) ?_ readyZ.nil
          simp only [zp]
          refine anyZ_done (by kernel_rfl) ?_ _
          dsimp only [Only, Exit.then]
          clear d0 d1 e0 e1 hZ hW
          go_wp2_with fail
          go_meet
          exact ⟨_, _, rfl, rfl, HE.out.1, HE.out.2.1, HE.out.2.2⟩
      case rest =>
        obtain ⟨gx, gy, rfl, rfl, hkx, hky, hbc⟩ := hcut
        have HRC := hide (HRX.out.upto hbc)
        have HKC := hide (And.intro (HKX.out.upto hbc) (And.intro hkx hky))
        have HBC := hide (bt HBX.out hbc)
        have p0 := HKC.out.1.cell 0 _ rfl
        have p1 := HKC.out.1.cell 1 _ rfl
        have x0 := hkx.cell 0 _ rfl
        have x1 := hkx.cell 1 _ rfl
        clear hkx hky hbc c0 c1 hgl
        go_wp2_with fail
        refine (order_is HRC.out.env HIN.out.1.1 HIN.out.1.2 HIN.out.1.1 HIN.out.2.1).mono ?_
        rintro e w5 ⟨rfl, g5⟩
        have HR5 := hide (HRC.out.upto g5.below)
        have HB5 := hide (bt HBC.out g5.below)
        have HK5 := hide (And.intro (HKC.out.1.upto g5.below) (HKC.out.2.2.upto g5.below))
        obtain ⟨z1, hz1⟩ : ∃ z, cfN (dst U P) (u, p) (u, q) = z := ⟨_, rfl⟩
        rw [hz1]
        have hb1 := HBAD.out
        rw [hz1] at hb1
        have HB1 := hide hb1
        clear p0 p1 x0 x1 hz1 hb1
        by_cases hn1 : z1 < 0
        · have p0 := HK5.out.1.cell 0 _ rfl
          have p1 := HK5.out.1.cell 1 _ rfl
          have y0 := HK5.out.2.cell 0 _ rfl
          have y1 := HK5.out.2.cell 1 _ rfl
          clear g5
          go_wp2_with fail
          refine (order_is HR5.out.env HIN.out.1.1 HIN.out.1.2 HIN.out.2.2 HIN.out.1.2).mono ?_
          rintro e w6 ⟨rfl, g6⟩
          have HR6 := hide (HR5.out.upto g6.below)
          have HB6 := hide (bt HB5.out g6.below)
          obtain ⟨z2, hz2⟩ : ∃ z, cfN (dst U P) (u, p) (v, p) = z := ⟨_, rfl⟩
          rw [hz2]
          have hb2 := HB1.out
          rw [hz2] at hb2
          have HB2 := hide hb2
          clear p0 p1 y0 y1 hz2 hb2 g6
          by_cases hn2 : z2 < 0
          · go_wp2_with fail
            go_ret
            refine ⟨_, rfl, HB6.out, fun h => by simp at h, fun ⟨ls, _, e, _, hs⟩ => absurd (HB2.out.2 ⟨hn1, hn2⟩) ?_⟩
            rw [cast_inj e]
            exact (stb_bad (ltD_ord _)).1 hs u p
          · go_wp2_with fail
            go_roundw
            case rel => exact ⟨k + 1, by omega, by go_num, HB6.out, HR6.out, HNX.out (fun h => absurd (HB2.out.1 h).2 (by omega))⟩
            case measure => simp [intOf]; omega
        · clear g5
          go_wp2_with fail
          go_roundw
          case rel => exact ⟨k + 1, by omega, by go_num, HB5.out, HR5.out, HNX.out (fun h => absurd (HB1.out.1 h).1 (by omega))⟩
          case measure => simp [intOf]; omega
    · obtain rfl : k = m := by omega
      have hki : ¬ ((k : Nat) : Int) < (k : Nat) := by omega
      have HN := hide (And.intro hB hnone)
      clear hB hR hnone
      go_wp2_with fail
      go_ret
      exact ⟨_, rfl, HN.out.1, fun _ => ⟨ks, HF.out, rfl, by rw [HL.out.1]; exact HON.out, bad_all HON.out HZ.out HN.out.2⟩, fun _ => rfl⟩
end Go.Proofs.Ytmkoleioipklpaa
