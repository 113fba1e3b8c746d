/-
  The document's Stable.
-/
import Derived.Test.YtmkoleioipklpaaStb
import Derived.Test.YtmkoleioipklpaaRtt
namespace Go.Proofs.Ytmkoleioipklpaa
open Go.RowKit
set_option linter.unusedVariables false
set_option linter.unusedSimpArgs false
/-- Unit u and the place of unit v would not rather have each other. -/
def Nst (d : Nat → Nat → Int) (ks : List Nat) (u v : Nat) : Prop := ∀ p q, ks[u]? = some q → ks[v]? = some p → u ≠ v → ¬ (ltD d (u, p) (u, q) ∧ ltD d (u, p) (v, p))
theorem Nst.of {d : Nat → Nat → Int} {ks : List Nat} {u v p q : Nat} (hq : ks[u]? = some q) (hp : ks[v]? = some p) (h : u ≠ v → ¬ (ltD d (u, p) (u, q) ∧ ltD d (u, p) (v, p))) : Nst d ks u v := fun p' q' h1 h2 => by
  rw [hq] at h1
  rw [hp] at h2
  cases h1
  cases h2
  exact h
theorem nst_next {d : Nat → Nat → Int} {ks : List Nat} {i c : Nat} (h : ∀ v, v < c → Nst d ks i v) (hn : Nst d ks i c) : ∀ v, v < c + 1 → Nst d ks i v := fun v hv => by
  rcases Nat.lt_or_ge v c with q | q
  · exact h v q
  · rw [show v = c by omega]; exact hn
theorem nst_row {d : Nat → Nat → Int} {ks : List Nat} {i c : Nat} (hl : ks.length = c) (h : ∀ v, v < c → Nst d ks i v) : ∀ v, Nst d ks i v := fun v => by
  rcases Nat.lt_or_ge v c with q | q
  · exact h v q
  · intro p q' h1 h2
    rw [List.getElem?_eq_none (by omega)] at h2
    cases h2
theorem nst_rows {d : Nat → Nat → Int} {ks : List Nat} {i : Nat} (h : ∀ u, u < i → ∀ v, Nst d ks u v) (hn : ∀ v, Nst d ks i v) : ∀ u, u < i + 1 → ∀ v, Nst d ks u v := fun u hu => by
  rcases Nat.lt_or_ge u i with q | q
  · exact h u q
  · rw [show u = i by omega]; exact hn
theorem nst_all {d : Nat → Nat → Int} {ks : List Nat} {i : Nat} (hl : ks.length = i) (h : ∀ u, u < i → ∀ v, Nst d ks u v) : Stb (ltD d) ks := fun u v p q hu hv hne => h u (by rw [← hl]; exact (List.getElem?_eq_some_iff.1 hu).1) v p q hu hv hne
set_option maxRecDepth 100000 in
set_option maxHeartbeats 8000000 in
theorem refstable_is (us ps m : Value) (U P : List (Int × Int)) (M : List Int) (w : World) (hu : CeR w us U) (hp : CeR w ps P) (hm : Ir w m M) : Calls Try.prog 14 #[us, ps, m] w (StE w U P M) := by
  obtain ⟨au, cu, rfl, hcu, hmu⟩ := hu.slice
  obtain ⟨ap, cp, rfl, hcp, hmp⟩ := hp.slice
  obtain ⟨am, cm, rfl, hcm, hmm⟩ := hm.slice
  have HT := hide (reftotal_is _ _ _ U P M w hu hp hm)
  have HH := hide (And.intro hu (And.intro hp hm))
  clear hu hp hm
  go_enter Try.func14, Try.ntmps14
  go_wp2_with fail
  refine HT.out.mono ?_
  rintro e w1 ⟨T, E, rfl, hb1, hor⟩
  have HB1 := hide hb1
  clear hb1 HT
  rcases hor with ⟨ks, h0, rfl, hon, rfl, rfl⟩ | ⟨hno, rfl, rfl⟩
  case inr =>
    have HNO := hide hno
    clear hno
    go_wp2_with fail
    go_ret
    exact ⟨_, rfl, HB1.out, StR.no HNO.out⟩
  obtain ⟨hn, hl, -, -⟩ := rfs_ok h0
  have HF := hide h0
  obtain ⟨n, hnn⟩ : ∃ n, U.length = n := ⟨_, rfl⟩
  have hlen : (cast ks).length = n := by rw [cast_len, ← hnn]; exact hon.len
  rw [hl] at hcp hmp HH ⊢
  rw [hnn] at hn hcu hmu hcp hmp HH hl hon ⊢
  rw [hlen] at hcm hmm HH ⊢
  have HL := hide (And.intro hnn hl)
  have HON := hide hon
  obtain ⟨tt, htt⟩ : ∃ t, totN (dst U P) ks = t := ⟨_, rfl⟩
  rw [htt]
  have hn63 : ((n : Nat) : Int) ≤ 64 := by omega
  clear h0 hnn hl hlen hon htt
  go_wp2_with fail
  go_loopw [9] (fun s9 wr => ∃ i : Nat, i ≤ n ∧ s9 = .int .i64 i ∧ (∀ u, u < i → ∀ v, Nst (dst U P) ks u v) ∧ Below w.heap.size w wr) (fun s9 _ => n - (intOf s9).toNat)
  case atStart => exact ⟨0, Nat.zero_le _, rfl, fun u h => absurd h (Nat.not_lt_zero u), HB1.out⟩
  case round =>
    obtain ⟨i, hi, rfl, hS, hB⟩ := hrel
    clear HB1
    by_cases hlt : i < n
    · have hii : (i : Int) < (n : Nat) := by omega
      have HS := hide hS
      have HB := hide hB
      clear hS hB
      go_wp2_with fail
      go_loopw [10] (fun s10 wr => ∃ c : Nat, c ≤ n ∧ s10 = .int .i64 c ∧ (∀ v, v < c → Nst (dst U P) ks i v) ∧ Below w.heap.size w wr) (fun s10 _ => n - (intOf s10).toNat)
      case atStart => exact ⟨0, Nat.zero_le _, rfl, fun v h => absurd h (Nat.not_lt_zero v), HB.out⟩
      case round =>
        obtain ⟨c, hc, rfl, hS, hB⟩ := hrel
        clear HB
        by_cases hlt2 : c < n
        · have hci : (c : Int) < (n : Nat) := by omega
          obtain ⟨q, hq⟩ : ∃ q, ks[i]? = some q := ⟨_, List.getElem?_eq_getElem (by rw [HON.out.len]; exact hlt)⟩
          obtain ⟨p, hp⟩ : ∃ p, ks[c]? = some p := ⟨_, List.getElem?_eq_getElem (by rw [HON.out.len]; exact hlt2)⟩
          have hqn : q < n := HON.out.lt q (List.mem_of_getElem? hq)
          have hpn : p < n := HON.out.lt p (List.mem_of_getElem? hp)
          have HNX := hide (fun h => nst_next hS (Nst.of hq hp h))
          have HBr := hide hB
          obtain ⟨g, o, hga, -, c0⟩ := Ir.at (HH.out.2.2.kept hB) rfl (cast_get hp)
          obtain ⟨g2, o2, hga2, -, c1⟩ := Ir.at (HH.out.2.2.kept hB) rfl (cast_get hq)
          subst hga
          injection hga2 with hga2
          injection hga2 with e1 e2
          subst e1
          subst e2
          have HQP := hide (And.intro hq hp)
          by_cases hne : i = c
          · have HX := hide (HNX.out (fun h => absurd hne h))
            have hne' : ((i : Int) != (c : Nat)) = false := by simp; omega
            clear hS hB hq hp
            go_wp2_with fail
            go_roundw
            case rel => exact ⟨c + 1, by omega, by go_num, HX.out, HBr.out⟩
            case measure => simp [intOf]; omega
          have hne' : ((i : Int) != (c : Nat)) = true := by simp; omega
          have HB2 := hide (fun wx (hx : Below w.heap.size w wx) => before_is _ _ U P wx (HH.out.1.kept hx) (HH.out.2.1.kept hx) (by rw [HL.out.1]; exact hn) (by rw [HL.out.2]; exact hn) (u := i) (p := p) (v := i) (q := q) (by rw [HL.out.1]; exact hlt) (by rw [HL.out.2]; exact hpn) (by rw [HL.out.1]; exact hlt) (by rw [HL.out.2]; exact hqn))
          have HB3 := hide (fun wx (hx : Below w.heap.size w wx) => before_is _ _ U P wx (HH.out.1.kept hx) (HH.out.2.1.kept hx) (by rw [HL.out.1]; exact hn) (by rw [HL.out.2]; exact hn) (u := i) (p := p) (v := c) (q := p) (by rw [HL.out.1]; exact hlt) (by rw [HL.out.2]; exact hpn) (by rw [HL.out.1]; exact hlt2) (by rw [HL.out.2]; exact hpn))
          clear hS hB hq hp
          go_wp2_with fail
          refine (HB2.out _ HBr.out).mono ?_
          rintro e wz ⟨b1, rfl, hb1, hbz⟩
          have HBz := hide (bt HBr.out hbz)
          have HB1 := hide hb1
          clear hbz hb1 HB2
          cases b1
          · have HX := hide (HNX.out (fun _ h => by have := HB1.out.2 h.1; cases this))
            go_wp2_with fail
            go_roundw
            case rel => exact ⟨c + 1, by omega, by go_num, HX.out, HBz.out⟩
            case measure => simp [intOf]; omega
          · go_wp2_with fail
            refine (HB3.out _ HBz.out).mono ?_
            rintro e wy ⟨b2, rfl, hb2, hby⟩
            have HBy := hide (bt HBz.out hby)
            have HB2 := hide hb2
            clear hby hb2 HB3
            cases b2
            · have HX := hide (HNX.out (fun _ h => by have := HB2.out.2 h.2; cases this))
              go_wp2_with fail
              go_roundw
              case rel => exact ⟨c + 1, by omega, by go_num, HX.out, HBy.out⟩
              case measure => simp [intOf]; omega
            · go_wp2_with fail
              go_ret
              refine ⟨_, rfl, HBy.out, fun h => by simp at h, fun ⟨ls, _, e, _, hs⟩ => ?_⟩
              rw [← cast_inj e] at hs
              exact absurd ⟨HB1.out.1 (by trivial), HB2.out.1 (by trivial)⟩ (hs i c p q HQP.out.1 HQP.out.2 hne)
        · obtain rfl : c = n := by omega
          have hci : ¬ ((c : Nat) : Int) < (c : Nat) := by omega
          have HN := hide (And.intro (nst_rows HS.out (nst_row HON.out.len hS)) hB)
          clear hS hB
          go_wp2_with fail
          go_roundw
          case rel => exact ⟨i + 1, by omega, by go_num, HN.out.1, HN.out.2⟩
          case measure => simp [intOf]; omega
    · obtain rfl : i = n := by omega
      have hii : ¬ ((i : Nat) : Int) < (i : Nat) := by omega
      have HN := hide (And.intro hB (nst_all HON.out.len hS))
      clear hS hB
      go_wp2_with fail
      go_ret
      exact ⟨_, rfl, HN.out.1, fun _ => ⟨ks, HF.out, rfl, by rw [HL.out.1]; exact HON.out, HN.out.2⟩, fun _ => rfl⟩
end Go.Proofs.Ytmkoleioipklpaa
