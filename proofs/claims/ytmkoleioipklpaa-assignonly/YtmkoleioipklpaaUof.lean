/-
  Whose each place is.
-/
import Derived.Test.YtmkoleioipklpaaMch
namespace Go.Proofs.Ytmkoleioipklpaa
open Go.RowKit
set_option linter.unusedVariables false
set_option linter.unusedSimpArgs false
/-- What unitsOf tells. -/
def UoE (w : World) (n : Nat) (M : List Int) (e : Ending) (w' : World) : Prop :=
  ∃ v b, e = .returned (.tuple #[v, .bool b]) ∧ Below w.heap.size w w' ∧ (∃ a l c, v = .slice a l c) ∧ (∀ g, v.ownBlock = some g → w.heap.size ≤ g) ∧ ((b = false ∧ ¬ (M.length = n ∧ PO n M)) ∨ (b = true ∧ ∃ ks, M = cast ks ∧ Once n ks ∧ Ir w' v (wF n ks)))
/-- The loop through the units. -/
structure ULp (w0 w : World) (n : Nat) (M : List Int) (Bw k : Nat) (ks : List Nat) : Prop where
  eq : M.take k = cast ks
  lt : ∀ p ∈ ks, p < n
  nd : ks.Nodup
  kw : Bk w Bw 3 (iv (wF n ks))
  bel : Below w0.heap.size w0 w
theorem ULp.len {w0 w : World} {n : Nat} {M : List Int} {Bw k : Nat} {ks : List Nat} (h : ULp w0 w n M Bw k ks) (hk : k ≤ M.length) : ks.length = k := by
  have := congrArg List.length h.eq
  rw [cast_len, List.length_take] at this
  omega
theorem ULp.snoc {w0 w : World} {n : Nat} {M : List Int} {Bw k : Nat} {ks : List Nat} (h : ULp w0 w n M Bw k ks) {x : Int} (hx : M[k]? = some x) : M.take (k + 1) = cast ks ++ [x] := by
  rw [List.take_add_one, hx, h.eq]; rfl
theorem ULp.bad {w0 w : World} {n : Nat} {M : List Int} {Bw k : Nat} {ks : List Nat} (h : ULp w0 w n M Bw k ks) {x : Int} (hx : M[k]? = some x) (hb : ¬ (0 ≤ x ∧ x < (n : Nat) ∧ x.toNat ∉ ks)) : ¬ (M.length = n ∧ PO n M) := fun ⟨_, hp⟩ => by
  have := hp.take (k + 1)
  rw [h.snoc hx] at this
  exact hb ((PO.snoc h.lt h.nd).1 this)
set_option maxRecDepth 100000 in
set_option maxHeartbeats 8000000 in
theorem unitsof_is (m : Value) (M : List Int) (n : Nat) (hn : n ≤ 64) (w : World) (hm : Ir w m M) : Calls Try.prog 22 #[m, .int .i64 (n : Nat)] w (UoE w n M) := by
  obtain ⟨a, c, rfl, hc, hmx⟩ := hm.slice
  have hn63 : ((n : Nat) : Int) ≤ 64 := by omega
  have l63 : ((M.length : Nat) : Int) ≤ 9223372036854775807 := by unfold maxLen at hmx; omega
  by_cases hl : M.length = n
  case neg =>
    have hl' : ¬ ((M.length : Nat) : Int) = (n : Nat) := by omega
    have HL := hide hl
    clear hm
    go_enter Try.func22, Try.ntmps22
    go_wp2_with fail
    refine bodyPost_ret (v := .tuple #[.slice none 0 0, .bool false]) (by simp [results, Try.results22, go_sem]) rfl ?_
    exact ⟨_, _, rfl, Below.refl _ _, ⟨_, _, _, rfl⟩, (fun g e => by cases e), .inl ⟨rfl, fun h => HL.out h.1⟩⟩
  have HM := hide hm
  have HL := hide hl
  rw [hl]
  clear hm l63 hc hmx hl
  obtain ⟨X, hX⟩ : ∃ X, w.alloc (.cells #[.int .i64 (-1)] 3) = X := ⟨_, rfl⟩
  have BX : Below w.heap.size w X := by rw [← hX]; exact box1 _ _
  have KX : Bk X w.heap.size 3 [.int .i64 (-1)] := by rw [← hX]; exact Bk.new _ _ _
  have HX := hide hX
  have HRp := hide (repeat_is w.heap.size (-1) n (by omega) X (KX.cell 0 _ rfl) KX.lt)
  have HBX := hide BX
  clear hX BX KX
  go_enter Try.func22, Try.ntmps22
  go_wp2_with (rw [HX.out])
  refine HRp.out.mono ?_
  rintro e w1 ⟨rfl, hk1, hb1⟩
  have R0 : ULp w w1 n M X.heap.size 0 [] := ⟨by simp [cast], by simp, by simp, by rw [wF_nil, iv_rep]; show w1.heap[X.heap.size]? = _; rw [hk1]; simp [repL], bt HBX.out hb1⟩
  have hlo := HBX.out.size
  have HR0 := hide R0
  have HLO := hide hlo
  obtain ⟨Bw, hBw⟩ : ∃ g, X.heap.size = g := ⟨_, rfl⟩
  rw [hBw] at HR0 HLO ⊢
  clear R0 hlo hk1 hb1 HRp HBX HX hBw
  go_wp2_with fail
  go_loopw [18] (fun s18 wr => ∃ k : Nat, k ≤ n ∧ s18 = .int .i64 k ∧ ∃ ks, ULp w wr n M Bw k ks) (fun s18 _ => n - (intOf s18).toNat)
  case atStart => exact ⟨0, Nat.zero_le _, rfl, _, HR0.out⟩
  case round =>
    obtain ⟨k, hk, rfl, ks, hR⟩ := hrel
    clear HR0
    by_cases hlt : k < n
    · have hki : (k : Int) < (n : Nat) := by omega
      obtain ⟨x, hx⟩ : ∃ x, M[k]? = some x := ⟨_, List.getElem?_eq_getElem (by rw [HL.out]; omega)⟩
      obtain ⟨g, o, hga, -, c0⟩ := Ir.at (HM.out.kept hR.bel) rfl hx
      subst hga
      by_cases hx0 : x < 0
      · have HB := hide (hR.bad hx (by omega))
        have HBel := hide hR.bel
        clear hR hx
        go_wp2_with fail
        refine bodyPost_ret (v := .tuple #[.slice none 0 0, .bool false]) (by simp [results, Try.results22, go_sem]) rfl ?_
        exact ⟨_, _, rfl, HBel.out, ⟨_, _, _, rfl⟩, (fun g e => by cases e), .inl ⟨rfl, HB.out⟩⟩
      by_cases hxn : x < (n : Nat)
      case neg =>
        have HB := hide (hR.bad hx (by omega))
        have HBel := hide hR.bel
        clear hR hx
        go_wp2_with fail
        refine bodyPost_ret (v := .tuple #[.slice none 0 0, .bool false]) (by simp [results, Try.results22, go_sem]) rfl ?_
        exact ⟨_, _, rfl, HBel.out, ⟨_, _, _, rfl⟩, (fun g e => by cases e), .inl ⟨rfl, HB.out⟩⟩
      obtain ⟨j, rfl⟩ : ∃ j : Nat, x = (j : Nat) := ⟨x.toNat, by omega⟩
      have hj : j < n := by omega
      obtain ⟨y, hy⟩ : ∃ y, (wF n ks)[j]? = some y := ⟨_, List.getElem?_eq_getElem (by rw [wF_len]; exact hj)⟩
      have cw := hR.kw.cell j _ (iv_at hy)
      have hin := (wF_get hj hy).1
      by_cases hy1 : y = -1
      · subst hy1
        have hnot : j ∉ ks := hin.1 rfl
        have fw := hR.kw.frozen j
        obtain ⟨Z, hZ⟩ : ∃ Z, wr.setCell ⟨Bw, j, none⟩ (.int .i64 (k : Nat)) = Z := ⟨_, rfl⟩
        have hlen := hR.len (by rw [HL.out]; exact hk)
        have HN : Hid (ULp w Z n M Bw (k + 1) (ks ++ [j])) := hide ⟨by rw [hR.snoc hx]; simp [cast], fun p hp => by
            rcases List.mem_append.1 hp with hp | hp
            · exact hR.lt p hp
            · rw [List.mem_singleton.1 hp]; exact hj, List.nodup_append.2 ⟨hR.nd, by simp, fun a ha b hb => by rw [List.mem_singleton.1 hb]; exact fun e => hnot (e ▸ ha)⟩, by rw [wF_snoc, hlen, ← iv_set, ← hZ]; exact hR.kw.set j _, by rw [← hZ]; exact hR.bel.trans ((Turns.set (S := fun g => Bw = g) (p := ⟨Bw, j, none⟩) wr rfl _).below (fun g e => by rw [← e]; exact HLO.out) hR.bel.size)⟩
        have HZ := hide hZ
        clear hR hx hy hin hnot hlen hZ
        go_wp2_with (rw [HZ.out])
        go_roundw
        case rel => exact ⟨k + 1, by omega, by go_num, _, by first | exact HN.out | (rw [HZ.out]; exact HN.out)⟩
        case measure => simp [intOf]; omega
      · have HB := hide (hR.bad hx (fun h => hy1 (hin.2 (by simpa using h.2.2))))
        have HBel := hide hR.bel
        have hyb : (y != -1) = true := by simpa using hy1
        clear hR hx hy hin
        go_wp2_with fail
        refine bodyPost_ret (v := .tuple #[.slice none 0 0, .bool false]) (by simp [results, Try.results22, go_sem]) rfl ?_
        exact ⟨_, _, rfl, HBel.out, ⟨_, _, _, rfl⟩, (fun g e => by cases e), .inl ⟨rfl, HB.out⟩⟩
    · obtain rfl : k = n := by omega
      have hki : ¬ ((k : Nat) : Int) < (k : Nat) := by omega
      have HN := hide hR
      clear hR
      go_wp2_with fail
      refine bodyPost_ret (v := .tuple #[.slice (some ⟨Bw, 0, none⟩) k k, .bool true]) (by simp [results, Try.results22, go_sem]) rfl ?_
      have hR := HN.out
      have he := hR.eq
      have hlen := hR.len (Nat.le_of_eq HL.out.symm)
      rw [← HL.out, List.take_length] at he
      have hI := hR.kw.ir (by rw [wF_len]; unfold maxLen; omega)
      rw [wF_len] at hI
      exact ⟨_, _, rfl, hR.bel, ⟨_, _, _, rfl⟩, (fun g e => by cases e; exact HLO.out), .inr ⟨rfl, ks, he, ⟨hlen, hR.lt, hR.nd⟩, hI⟩⟩
end Go.Proofs.Ytmkoleioipklpaa
