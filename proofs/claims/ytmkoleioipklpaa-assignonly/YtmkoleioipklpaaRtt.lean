/-
  The document's Total.
-/
import Derived.Test.YtmkoleioipklpaaTot
import Derived.Test.YtmkoleioipklpaaOnc
namespace Go.Proofs.Ytmkoleioipklpaa
open Go.RowKit
set_option linter.unusedVariables false
set_option linter.unusedSimpArgs false
set_option maxRecDepth 100000 in
set_option maxHeartbeats 8000000 in
theorem reftotal_is (us ps m : Value) (U P : List (Int × Int)) (M : List Int) (w : World) (hu : CeR w us U) (hp : CeR w ps P) (hm : Ir w m M) : Calls Try.prog 12 #[us, ps, m] w (ToE w U P M) := by
  obtain ⟨au, cu, rfl, hcu, hmu⟩ := hu.slice
  obtain ⟨ap, cp, rfl, hcp, hmp⟩ := hp.slice
  obtain ⟨am, cm, rfl, hcm, hmm⟩ := hm.slice
  by_cases h0 : rfs U P = 0
  case neg =>
    have HR := hide (refuses_any _ _ U P w hu hp)
    obtain ⟨E, hE⟩ : ∃ E, rfs U P = E := ⟨_, rfl⟩
    have HE := hide hE
    rw [hE] at HR h0
    have hne : (E != 0) = true := by simpa using h0
    clear hu hp
    go_enter Try.func12, Try.ntmps12
    go_wp2_with fail
    refine HR.out.mono ?_
    rintro e w1 ⟨rfl, hb1⟩
    have HB1 := hide hb1
    clear hb1
    go_wp2_with fail
    refine bodyPost_ret (v := .tuple #[.int .i64 0, .int .i64 1]) (by simp [results, Try.results12, go_sem]) rfl ?_
    exact ⟨_, _, rfl, HB1.out, .inr ⟨fun h => h0 (HE.out.symm.trans h.1), rfl, rfl⟩⟩
  obtain ⟨hn, hl, -, -⟩ := rfs_ok h0
  have HR := hide (refuses_any _ _ U P w hu hp)
  have HF := hide h0
  have HH := hide (And.intro hu (And.intro hp hm))
  rw [h0] at HR
  obtain ⟨n, hnn⟩ : ∃ n, U.length = n := ⟨_, rfl⟩
  rw [hl] at hcp hmp HR HH ⊢
  rw [hnn] at hn hcu hmu hcp hmp HR HH hl ⊢
  have HL := hide (And.intro hnn hl)
  clear hu hp hm h0 hnn hl
  have hn63 : ((n : Nat) : Int) ≤ 64 := by omega
  go_enter Try.func12, Try.ntmps12
  go_wp2_with fail
  refine HR.out.mono ?_
  rintro e w1 ⟨rfl, hb1⟩
  have HB1 := hide hb1
  have HU := hide (once_is _ M n hn w1 (HH.out.2.2.kept hb1))
  clear hb1 HR
  go_wp2_with fail
  refine HU.out.mono ?_
  rintro e w2 ⟨b, rfl, hb2, hor⟩
  have HB2 := hide (bt HB1.out hb2)
  clear hb2
  rcases hor with ⟨rfl, hno⟩ | ⟨rfl, ks, hks, hon⟩
  · have HNO := hide hno
    clear hno
    go_wp2_with fail
    refine bodyPost_ret (v := .tuple #[.int .i64 0, .int .i64 1]) (by simp [results, Try.results12, go_sem]) rfl ?_
    exact ⟨_, _, rfl, HB2.out, .inr ⟨fun h => HNO.out (by rw [HL.out.1] at h; exact h.2), rfl, rfl⟩⟩
  subst hks
  have HON := hide hon
  have hlen : (cast ks).length = n := by rw [cast_len]; exact hon.len
  have HLK := hide hlen
  rw [hlen]
  clear hon hlen HU HB1
  go_wp2_with fail
  go_loopw [8, 9] (fun s8 s9 wr => ∃ k : Nat, k ≤ n ∧ s9 = .int .i64 k ∧ s8 = .int .i64 (totN (dst U P) (ks.take k)) ∧ Below w.heap.size w wr) (fun _ s9 _ => n - (intOf s9).toNat)
  case atStart => exact ⟨0, Nat.zero_le _, rfl, rfl, HB2.out⟩
  case round =>
    obtain ⟨k, hk, rfl, rfl, hB⟩ := hrel
    by_cases hlt : k < n
    · have hki : (k : Int) < (n : Nat) := by omega
      obtain ⟨j, hx, hxk⟩ := cast_at (ks := ks) (k := k) (by rw [HLK.out]; exact hlt)
      have hj : j < n := HON.out.lt j (List.mem_of_getElem? hxk)
      have hji : (j : Int) < (n : Nat) := by omega
      obtain ⟨q, hq⟩ : ∃ q, U[k]? = some q := ⟨_, List.getElem?_eq_getElem (by rw [HL.out.1]; exact hlt)⟩
      obtain ⟨s, hs⟩ : ∃ s, P[j]? = some s := ⟨_, List.getElem?_eq_getElem (by rw [HL.out.2]; exact hj)⟩
      have hd := dst_at hq hs
      have hst := tot_step (d := dst U P) hxk
      have hbd := totN_in (d := dst U P) (dst_in U P) (ks.take k)
      have hbd2 := dst_in U P k j
      have hkl : ((ks.take k).length : Int) ≤ 64 := by rw [List.length_take]; omega
      obtain ⟨tt, htt⟩ : ∃ t, totN (dst U P) (ks.take k) = t := ⟨_, rfl⟩
      obtain ⟨dd, hdd⟩ : ∃ d, dst U P k j = d := ⟨_, rfl⟩
      rw [htt, hdd] at hst
      rw [htt] at hbd ⊢
      rw [hdd] at hd hbd2
      have hw : IntKind.i64.wrap (tt + dd) = tt + dd := IntWalk.i64_in _ (by omega)
      obtain ⟨Y, hY⟩ : ∃ Y, wr.drew = Y := ⟨_, rfl⟩
      have hBY : Below w.heap.size w Y := by rw [← hY]; exact hB.drew
      obtain ⟨g1, o1, hga1, hgl1, d0, d1⟩ := CeR.at (HH.out.1.kept hBY) rfl hq
      obtain ⟨g2, o2, hga2, hgl2, d2, d3⟩ := CeR.at (HH.out.2.1.kept hBY) rfl hs
      obtain ⟨g3, o3, hga3, hgl3, d4⟩ := Ir.at (HH.out.2.2.kept hBY) rfl hx
      subst hga1
      subst hga2
      subst hga3
      have HT : Hid (∀ wx, Below Y.heap.size Y wx → (wx.cell? ⟨g1, o1 + k * 2, none⟩ = some (.int .i64 q.1) ∧ wx.cell? ⟨g1, o1 + k * 2 + 1, none⟩ = some (.int .i64 q.2)) ∧ (wx.cell? ⟨g2, o2 + j * 2, none⟩ = some (.int .i64 s.1) ∧ wx.cell? ⟨g2, o2 + j * 2 + 1, none⟩ = some (.int .i64 s.2)) ∧ wx.cell? ⟨g3, o3 + k, none⟩ = some (.int .i64 (j : Nat))) := hide fun wx hb =>
        ⟨⟨(hb.cell (p := ⟨g1, o1 + k * 2, none⟩) hgl1).trans d0, (hb.cell (p := ⟨g1, o1 + k * 2 + 1, none⟩) hgl1).trans d1⟩, ⟨(hb.cell (p := ⟨g2, o2 + j * 2, none⟩) hgl2).trans d2, (hb.cell (p := ⟨g2, o2 + j * 2 + 1, none⟩) hgl2).trans d3⟩, (hb.cell (p := ⟨g3, o3 + k, none⟩) hgl3).trans d4⟩
      have HO := hide (refoctilec_any q.1 q.2 s.1 s.2 Y)
      rw [← hd] at HO
      have HBY := hide hBY
      have HST := hide hst
      have HY := hide hY
      clear d0 d1 d2 d3 d4 hgl1 hgl2 hgl3 hq hs hd hst hbd hbd2 hkl htt hdd hBY hB hY hx hxk
      go_wp2_with fail
      refine wp_only ?_
      refine wp_region_z (fun wx : World => Below Y.heap.size Y wx) [] (by kernel_rfl) ?_
      rw [HY.out]
      refine zx 0 12 15 rfl (by kernel_rfl) (Below.refl _ _) ?_
      iterate 12 (refine zxc rfl (by rfl) (fun wx hx => by obtain ⟨⟨d0, d1⟩, ⟨d2, d3⟩, d4⟩ := HT.out wx hx; go_simp; rfl) ?_; simp only [zp])
      refine zxn ?_
      refine zw 12 [] (by kernel_rfl) ?_
      refine readyZ.call rfl rfl (Rf25 (by rfl) (by rfl) (by simp only [zj]; rfl)) HO.out ?_ readyZ.nil
      rintro e V3 ⟨rfl, hb3⟩
      have HB3 := hide (HBY.out.trans (hb3.mono HBY.out.size))
      refine ⟨_, rfl, fun _ => hb3, ?_⟩
      simp only [zp]
      refine zx 13 1 15 rfl (by kernel_rfl) hb3 ?_
      refine zxc (v := .int .i64 (tt + dd)) rfl (by rfl) (fun wx hx => by go_simp; first | done | (rw [hw])) ?_; simp only [zp]
      refine zxn ?_
      refine zw 14 [] (by kernel_rfl) ?_
      refine readyZ.cons rfl rfl (v' := .int .i64 (tt + dd)) (run_as (by rfl) (by rfl)) (fun _ => hb3) ?_ readyZ.nil
      simp only [zp]
      refine anyZ_done (by kernel_rfl) ?_ _
      dsimp only [Only, Exit.then]
      clear hb3
      go_wp2_with fail
      go_roundw
      case rel => exact ⟨k + 1, by omega, by go_num, by rw [HST.out], HB3.out⟩
      case measure => simp [intOf]; omega
    · obtain rfl : k = n := by omega
      have hki : ¬ ((k : Nat) : Int) < (k : Nat) := by omega
      have e1 : ks.take k = ks := by
        have := HLK.out
        rw [cast_len] at this
        exact List.take_of_length_le (by omega)
      rw [e1]
      have HN := hide hB
      obtain ⟨tt, htt⟩ : ∃ t, totN (dst U P) ks = t := ⟨_, rfl⟩
      have HTT := hide htt
      rw [htt]
      clear hB e1 htt
      go_wp2_with fail
      refine bodyPost_ret (v := .tuple #[.int .i64 tt, .int .i64 0]) (by simp [results, Try.results12, go_sem]) rfl ?_
      exact ⟨_, _, rfl, HN.out, .inl ⟨ks, HF.out, rfl, by rw [HL.out.1]; exact HON.out, HTT.out.symm, rfl⟩⟩
end Go.Proofs.Ytmkoleioipklpaa
