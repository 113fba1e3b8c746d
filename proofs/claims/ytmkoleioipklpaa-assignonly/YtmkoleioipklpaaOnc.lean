/-
  Each place once: the document's.
-/
import Derived.Test.YtmkoleioipklpaaUof
import Derived.Test.YtmkoleioipklpaaRmt
namespace Go.Proofs.Ytmkoleioipklpaa
open Go.RowKit
set_option linter.unusedVariables false
set_option linter.unusedSimpArgs false
/-- What once tells. -/
def OnE (w : World) (n : Nat) (M : List Int) (e : Ending) (w' : World) : Prop :=
  ∃ b, e = .returned (.bool b) ∧ Below w.heap.size w w' ∧ ((b = false ∧ ¬ (M.length = n ∧ PO n M)) ∨ (b = true ∧ ∃ ks, M = cast ks ∧ Once n ks))
structure OLp (w0 w : World) (n : Nat) (M : List Int) (Bw k : Nat) (ks : List Nat) : Prop where
  eq : M.take k = cast ks
  lt : ∀ p ∈ ks, p < n
  nd : ks.Nodup
  kw : Bk w Bw 4 (bv (gF n ks))
  bel : Below w0.heap.size w0 w
theorem OLp.len {w0 w : World} {n : Nat} {M : List Int} {Bw k : Nat} {ks : List Nat} (h : OLp w0 w n M Bw k ks) (hk : k ≤ M.length) : ks.length = k := by
  have := congrArg List.length h.eq
  rw [cast_len, List.length_take] at this
  omega
theorem OLp.snoc {w0 w : World} {n : Nat} {M : List Int} {Bw k : Nat} {ks : List Nat} (h : OLp w0 w n M Bw k ks) {x : Int} (hx : M[k]? = some x) : M.take (k + 1) = cast ks ++ [x] := by
  rw [List.take_add_one, hx, h.eq]; rfl
theorem OLp.bad {w0 w : World} {n : Nat} {M : List Int} {Bw k : Nat} {ks : List Nat} (h : OLp w0 w n M Bw k ks) {x : Int} (hx : M[k]? = some x) (hb : ¬ (0 ≤ x ∧ x < (n : Nat) ∧ x.toNat ∉ ks)) : ¬ (M.length = n ∧ PO n M) := fun ⟨_, hp⟩ => by
  have := hp.take (k + 1)
  rw [h.snoc hx] at this
  exact hb ((PO.snoc h.lt h.nd).1 this)
set_option maxRecDepth 100000 in
set_option maxHeartbeats 8000000 in
theorem once_is (m : Value) (M : List Int) (n : Nat) (hn : n ≤ 64) (w : World) (hm : Ir w m M) : Calls Try.prog 24 #[m, .int .i64 (n : Nat)] w (OnE w n M) := by
  obtain ⟨a, c, rfl, hc, hmx⟩ := hm.slice
  have hn63 : ((n : Nat) : Int) ≤ 64 := by omega
  have l63 : ((M.length : Nat) : Int) ≤ 9223372036854775807 := by unfold maxLen at hmx; omega
  by_cases hl : M.length = n
  case neg =>
    have hl' : ¬ ((M.length : Nat) : Int) = (n : Nat) := by omega
    have hl2 : (((M.length : Nat) : Int) != (n : Nat)) = true := by simpa using hl'
    have HL := hide hl
    clear hm
    go_enter Try.func24, Try.ntmps24
    go_wp2_with fail
    go_ret
    exact ⟨_, rfl, Below.refl _ _, .inl ⟨rfl, fun h => HL.out h.1⟩⟩
  have HM := hide hm
  have HL := hide hl
  rw [hl]
  clear hm l63 hc hmx hl
  have HM2 := hide (make_bools n (by omega) w)
  obtain ⟨Y, hY⟩ : ∃ Y, w.alloc (.cells (bv (List.replicate n false)).toArray 4) = Y := ⟨_, rfl⟩
  rw [hY] at HM2
  have BY : Below w.heap.size w Y := by rw [← hY]; exact box1 _ _
  have KY : Bk Y w.heap.size 4 (bv (List.replicate n false)) := by rw [← hY]; exact Bk.new _ _ _
  have R0 : OLp w Y n M w.heap.size 0 [] := ⟨by simp [cast], by simp, by simp, by rw [gF_nil]; exact KY, BY⟩
  have hlo : w.heap.size ≤ w.heap.size := Nat.le_refl _
  obtain ⟨Bw, hBw⟩ : ∃ g, w.heap.size = g := ⟨_, rfl⟩
  rw [hBw] at HM2 R0
  have hlo : w.heap.size ≤ Bw := by omega
  have HR0 := hide R0
  have HLO := hide hlo
  clear hY BY KY R0 hlo hBw
  go_enter Try.func24, Try.ntmps24
  go_wp2_with (rw [HM2.out])
  go_loopw [6] (fun s6 wr => ∃ k : Nat, k ≤ n ∧ s6 = .int .i64 k ∧ ∃ ks, OLp w wr n M Bw k ks) (fun s6 _ => n - (intOf s6).toNat)
  case atStart => exact ⟨0, Nat.zero_le _, rfl, _, HR0.out⟩
  case round =>
    obtain ⟨k, hk, rfl, ks, hR⟩ := hrel
    clear HR0 HM2
    by_cases hlt : k < n
    · have hki : (k : Int) < (n : Nat) := by omega
      obtain ⟨x, hx⟩ : ∃ x, M[k]? = some x := ⟨_, List.getElem?_eq_getElem (by rw [HL.out]; omega)⟩
      obtain ⟨g, o, hga, hgl, c0⟩ := Ir.at (HM.out.kept hR.bel) rfl hx
      subst hga
      by_cases hx0 : x < 0
      · have HB := hide (hR.bad hx (by omega))
        have HBel := hide hR.bel
        clear hR hx
        go_wp2_with fail
        go_ret
        exact ⟨_, rfl, HBel.out, .inl ⟨rfl, HB.out⟩⟩
      by_cases hxn : x < (n : Nat)
      case neg =>
        have HB := hide (hR.bad hx (by omega))
        have HBel := hide hR.bel
        have hge : x ≥ (n : Nat) := by omega
        clear hR hx
        go_wp2_with fail
        go_ret
        exact ⟨_, rfl, HBel.out, .inl ⟨rfl, HB.out⟩⟩
      obtain ⟨j, rfl⟩ : ∃ j : Nat, x = (j : Nat) := ⟨x.toNat, by omega⟩
      have hj : j < n := by omega
      obtain ⟨y, hy, hin⟩ := gF_get (n := n) (ks := ks) hj
      have cw := hR.kw.cell j _ (bv_at hy)
      have hxl : ¬ (n : Int) ≤ (j : Nat) := by omega
      cases y
      · have hnot : j ∉ ks := fun h => by have := hin.2 h; cases this
        have fw := hR.kw.frozen j
        obtain ⟨Z, hZ⟩ : ∃ Z, wr.setCell ⟨Bw, j, none⟩ (.bool true) = Z := ⟨_, rfl⟩
        have HN : Hid (OLp w Z n M Bw (k + 1) (ks ++ [j])) := hide ⟨by rw [hR.snoc hx]; simp [cast], fun p hp => by
            rcases List.mem_append.1 hp with hp | hp
            · exact hR.lt p hp
            · rw [List.mem_singleton.1 hp]; exact hj, List.nodup_append.2 ⟨hR.nd, by simp, fun a ha b hb => by rw [List.mem_singleton.1 hb]; exact fun e => hnot (e ▸ ha)⟩, by rw [gF_snoc, ← bv_set, ← hZ]; exact hR.kw.set j _, by rw [← hZ]; exact hR.bel.trans ((Turns.set (S := fun g => Bw = g) (p := ⟨Bw, j, none⟩) wr rfl _).below (fun g e => by rw [← e]; exact HLO.out) hR.bel.size)⟩
        have HZ := hide hZ
        clear hR hx hy hin hnot hZ
        go_wp2_with (rw [HZ.out])
        go_roundw
        case rel => exact ⟨k + 1, by omega, by go_num, _, by first | exact HN.out | (rw [HZ.out]; exact HN.out)⟩
        case measure => simp [intOf]; omega
      · have HB := hide (hR.bad hx (fun h => by
          have := hin.1 rfl
          exact h.2.2 (by simpa using this)))
        have HBel := hide hR.bel
        clear hR hx hy hin
        go_wp2_with fail
        go_ret
        exact ⟨_, rfl, HBel.out, .inl ⟨rfl, HB.out⟩⟩
    · obtain rfl : k = n := by omega
      have hki : ¬ ((k : Nat) : Int) < (k : Nat) := by omega
      have HN := hide hR
      clear hR
      go_wp2_with fail
      go_ret
      have hR := HN.out
      have he := hR.eq
      have hlen := hR.len (Nat.le_of_eq HL.out.symm)
      rw [← HL.out, List.take_length] at he
      exact ⟨_, rfl, hR.bel, .inr ⟨rfl, ks, he, hlen, hR.lt, hR.nd⟩⟩
end Go.Proofs.Ytmkoleioipklpaa
