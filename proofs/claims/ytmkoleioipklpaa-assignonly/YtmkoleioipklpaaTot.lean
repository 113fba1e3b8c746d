/-
  Total.
-/
import Derived.Test.YtmkoleioipklpaaUof
namespace Go.Proofs.Ytmkoleioipklpaa
open Go.RowKit
set_option linter.unusedVariables false
set_option linter.unusedSimpArgs false
/-- What the total is. -/
def ToR (U P : List (Int × Int)) (M : List Int) (T E : Int) : Prop :=
  (∃ ks, rfs U P = 0 ∧ M = cast ks ∧ Once U.length ks ∧ T = totN (dst U P) ks ∧ E = 0) ∨ (¬ (rfs U P = 0 ∧ M.length = U.length ∧ PO U.length M) ∧ T = 0 ∧ E = 1)
theorem Once.po {n : Nat} {ks : List Nat} (h : Once n ks) : (cast ks).length = n ∧ PO n (cast ks) := ⟨by rw [cast_len]; exact h.len, ks, rfl, h.lt, h.nd⟩
theorem ToR.one {U P : List (Int × Int)} {M : List Int} {T E S F : Int} (h : ToR U P M T E) (k : ToR U P M S F) : T = S ∧ E = F := by
  rcases h with ⟨ks, h0, rfl, h1, rfl, rfl⟩ | ⟨h0, rfl, rfl⟩
  · rcases k with ⟨ls, k0, k1, k2, rfl, rfl⟩ | ⟨k0, rfl, rfl⟩
    · rw [cast_inj k1]; exact ⟨rfl, rfl⟩
    · exact absurd ⟨h0, h1.po⟩ k0
  · rcases k with ⟨ls, k0, rfl, k2, rfl, rfl⟩ | ⟨k0, rfl, rfl⟩
    · exact absurd ⟨k0, k2.po⟩ h0
    · exact ⟨rfl, rfl⟩
/-- What Total tells. -/
def ToE (w : World) (U P : List (Int × Int)) (M : List Int) (e : Ending) (w' : World) : Prop :=
  ∃ T E, e = .returned (.tuple #[.int .i64 T, .int .i64 E]) ∧ Below w.heap.size w w' ∧ ToR U P M T E
theorem cast_at {ks : List Nat} {k : Nat} (h : k < (cast ks).length) : ∃ j : Nat, (cast ks)[k]? = some (j : Int) ∧ ks[k]? = some j := by
  rw [cast_len] at h
  exact ⟨ks[k], by simp [cast, h], List.getElem?_eq_getElem h⟩
theorem tot_step {d : Nat → Nat → Int} {ks : List Nat} {k j : Nat} (h : ks[k]? = some j) : totN d (ks.take (k + 1)) = totN d (ks.take k) + d k j := by
  have hl := (List.getElem?_eq_some_iff.1 h).1
  rw [List.take_add_one, h]
  show totN d (ks.take k ++ [j]) = _
  rw [totN_snoc, List.length_take, Nat.min_eq_left (Nat.le_of_lt hl)]
set_option maxRecDepth 100000 in
set_option maxHeartbeats 8000000 in
theorem total_is (us ps m : Value) (U P : List (Int × Int)) (M : List Int) (w : World) (hu : CeR w us U) (hp : CeR w ps P) (hm : Ir w m M) : Calls Try.prog 11 #[us, ps, m] w (ToE w U P M) := by
  obtain ⟨au, cu, rfl, hcu, hmu⟩ := hu.slice
  obtain ⟨ap, cp, rfl, hcp, hmp⟩ := hp.slice
  obtain ⟨am, cm, rfl, hcm, hmm⟩ := hm.slice
  by_cases h0 : rfs U P = 0
  case neg =>
    have HR := hide (refusal_any _ _ U P w hu hp)
    obtain ⟨E, hE⟩ : ∃ E, rfs U P = E := ⟨_, rfl⟩
    have HE := hide hE
    rw [hE] at HR h0
    clear hu hp
    go_enter Try.func11, Try.ntmps11
    go_wp2_with fail
    refine HR.out.mono ?_
    rintro e w1 ⟨rfl, hb1⟩
    have HB1 := hide hb1
    clear hb1
    go_wp2_with fail
    refine bodyPost_ret (v := .tuple #[.int .i64 0, .int .i64 1]) (by simp [results, Try.results11, go_sem]) rfl ?_
    exact ⟨_, _, rfl, HB1.out, .inr ⟨fun h => h0 (HE.out.symm.trans h.1), rfl, rfl⟩⟩
  obtain ⟨hn, hl, -, -⟩ := rfs_ok h0
  have HR := hide (refusal_any _ _ U P w hu hp)
  have HF := hide h0
  have HH := hide (And.intro hu (And.intro hp hm))
  rw [h0] at HR
  obtain ⟨n, hnn⟩ : ∃ n, U.length = n := ⟨_, rfl⟩
  rw [hl] at hcp hmp HR HH ⊢
  rw [hnn] at hn hcu hmu hcp hmp HR HH hl ⊢
  have HL := hide (And.intro hnn hl)
  clear hu hp hm h0 hnn hl
  have hn63 : ((n : Nat) : Int) ≤ 64 := by omega
  go_enter Try.func11, Try.ntmps11
  go_wp2_with fail
  refine HR.out.mono ?_
  rintro e w1 ⟨rfl, hb1⟩
  have HB1 := hide hb1
  have HU := hide (unitsof_is _ M n hn w1 (HH.out.2.2.kept hb1))
  clear hb1 HR
  go_wp2_with fail
  refine HU.out.mono ?_
  rintro e w2 ⟨v2, b, rfl, hb2, ⟨a2, l2, c2, rfl⟩, -, hor⟩
  have HB2 := hide (bt HB1.out hb2)
  clear hb2
  rcases hor with ⟨rfl, hno⟩ | ⟨rfl, ks, hks, hon, -⟩
  · have HNO := hide hno
    clear hno
    go_wp2_with fail
    refine bodyPost_ret (v := .tuple #[.int .i64 0, .int .i64 1]) (by simp [results, Try.results11, go_sem]) rfl ?_
    exact ⟨_, _, rfl, HB2.out, .inr ⟨fun h => HNO.out (by rw [HL.out.1] at h; exact h.2), rfl, rfl⟩⟩
  subst hks
  have HON := hide hon
  have hlen : (cast ks).length = n := by rw [cast_len]; exact hon.len
  have HLK := hide hlen
  rw [hlen]
  clear hon hlen HU HB1
  go_wp2_with fail
  go_loopw [10, 28] (fun s10 s28 wr => ∃ k : Nat, k ≤ n ∧ s28 = .int .i64 k ∧ s10 = .int .i64 (totN (dst U P) (ks.take k)) ∧ Below w.heap.size w wr) (fun _ s28 _ => n - (intOf s28).toNat)
  case atStart => exact ⟨0, Nat.zero_le _, rfl, rfl, HB2.out⟩
  case round =>
    obtain ⟨k, hk, rfl, rfl, hB⟩ := hrel
    by_cases hlt : k < n
    · have hki : (k : Int) < (n : Nat) := by omega
      obtain ⟨j, hx, hxk⟩ := cast_at (ks := ks) (k := k) (by rw [HLK.out]; exact hlt)
      have hj : j < n := HON.out.lt j (List.mem_of_getElem? hxk)
      have hji : (j : Int) < (n : Nat) := by omega
      obtain ⟨g, o, hga, -, c0⟩ := Ir.at (HH.out.2.2.kept hB) rfl hx
      subst hga
      obtain ⟨q, hq⟩ : ∃ q, U[k]? = some q := ⟨_, List.getElem?_eq_getElem (by rw [HL.out.1]; exact hlt)⟩
      obtain ⟨s, hs⟩ : ∃ s, P[j]? = some s := ⟨_, List.getElem?_eq_getElem (by rw [HL.out.2]; exact hj)⟩
      have hd := dst_at hq hs
      have hst := tot_step (d := dst U P) hxk
      have hbd := totN_in (d := dst U P) (dst_in U P) (ks.take k)
      have hbd2 := dst_in U P k j
      have hkl : ((ks.take k).length : Int) ≤ 64 := by rw [List.length_take]; omega
      obtain ⟨tt, htt⟩ : ∃ t, totN (dst U P) (ks.take k) = t := ⟨_, rfl⟩
      obtain ⟨dd, hdd⟩ : ∃ d, dst U P k j = d := ⟨_, rfl⟩
      rw [htt, hdd] at hst
      rw [htt] at hbd ⊢
      rw [hdd] at hd hbd2
      have hw : IntKind.i64.wrap (tt + dd) = tt + dd := IntWalk.i64_in _ (by omega)
      obtain ⟨Y, hY⟩ : ∃ Y, wr.drew = Y := ⟨_, rfl⟩
      have hBY : Below w.heap.size w Y := by rw [← hY]; exact hB.drew
      obtain ⟨g1, o1, hga1, hgl1, d0, d1⟩ := CeR.at (HH.out.1.kept hBY) rfl hq
      obtain ⟨g2, o2, hga2, hgl2, d2, d3⟩ := CeR.at (HH.out.2.1.kept hBY) rfl hs
      subst hga1
      subst hga2
      have HT : Hid (∀ wx, Below Y.heap.size Y wx → (wx.cell? ⟨g1, o1 + k * 2, none⟩ = some (.int .i64 q.1) ∧ wx.cell? ⟨g1, o1 + k * 2 + 1, none⟩ = some (.int .i64 q.2)) ∧ wx.cell? ⟨g2, o2 + j * 2, none⟩ = some (.int .i64 s.1) ∧ wx.cell? ⟨g2, o2 + j * 2 + 1, none⟩ = some (.int .i64 s.2)) := hide fun wx hb =>
        ⟨⟨(hb.cell (p := ⟨g1, o1 + k * 2, none⟩) hgl1).trans d0, (hb.cell (p := ⟨g1, o1 + k * 2 + 1, none⟩) hgl1).trans d1⟩, (hb.cell (p := ⟨g2, o2 + j * 2, none⟩) hgl2).trans d2, (hb.cell (p := ⟨g2, o2 + j * 2 + 1, none⟩) hgl2).trans d3⟩
      have HO := hide (octilec_any q.1 q.2 s.1 s.2 Y)
      rw [← hd] at HO
      have HBY := hide hBY
      have HST := hide hst
      have HY := hide hY
      clear d0 d1 d2 d3 hgl1 hgl2 hq hs hd hst hbd hbd2 hkl htt hdd hBY hB hY hx hxk
      go_wp2_with fail
      refine wp_only ?_
      refine wp_region_z (fun wx : World => Below Y.heap.size Y wx) [] (by kernel_rfl) ?_
      rw [HY.out]
      refine zx 0 9 13 rfl (by kernel_rfl) (Below.refl _ _) ?_
      iterate 9 (refine zxc rfl (by rfl) (fun wx hx => by obtain ⟨⟨d0, d1⟩, d2, d3⟩ := HT.out wx hx; go_simp; rfl) ?_; simp only [zp])
      refine zxn ?_
      refine zw 9 [] (by kernel_rfl) ?_
      refine readyZ.call rfl rfl (Rf23 (by rfl) (by rfl) (by simp only [zj]; rfl)) HO.out ?_ readyZ.nil
      rintro e V3 ⟨rfl, hb3⟩
      have HB3 := hide (HBY.out.trans (hb3.mono HBY.out.size))
      refine ⟨_, rfl, fun _ => hb3, ?_⟩
      simp only [zp]
      refine zx 10 1 13 rfl (by kernel_rfl) hb3 ?_
      refine zxc (v := .int .i64 (tt + dd)) rfl (by rfl) (fun wx hx => by go_simp; first | done | (rw [hw])) ?_; simp only [zp]
      refine zxn ?_
      refine zw 11 [] (by kernel_rfl) ?_
      refine readyZ.cons rfl rfl (v' := .int .i64 (tt + dd)) (run_as (by rfl) (by rfl)) (fun _ => hb3) ?_ readyZ.nil
      simp only [zp]
      refine anyZ_done (by kernel_rfl) ?_ _
      dsimp only [Only, Exit.then]
      clear hb3
      go_wp2_with fail
      go_roundw
      case rel => exact ⟨k + 1, by omega, by go_num, by rw [HST.out], HB3.out⟩
      case measure => simp [intOf]; omega
    · obtain rfl : k = n := by omega
      have hki : ¬ ((k : Nat) : Int) < (k : Nat) := by omega
      have e1 : ks.take k = ks := by
        have := HLK.out
        rw [cast_len] at this
        exact List.take_of_length_le (by omega)
      rw [e1]
      have HN := hide hB
      obtain ⟨tt, htt⟩ : ∃ t, totN (dst U P) ks = t := ⟨_, rfl⟩
      have HTT := hide htt
      rw [htt]
      clear hB e1 htt
      go_wp2_with fail
      refine bodyPost_ret (v := .tuple #[.int .i64 tt, .int .i64 0]) (by simp [results, Try.results11, go_sem]) rfl ?_
      exact ⟨_, _, rfl, HN.out, .inl ⟨ks, HF.out, rfl, by rw [HL.out.1]; exact HON.out, HTT.out.symm, rfl⟩⟩
end Go.Proofs.Ytmkoleioipklpaa
