/-
  The document's Match.
-/
import Derived.Test.YtmkoleioipklpaaMch
import Derived.Test.YtmkoleioipklpaaBfr
namespace Go.Proofs.Ytmkoleioipklpaa
open Go.RowKit
set_option linter.unusedVariables false
set_option linter.unusedSimpArgs false
theorem make_ints (n : Nat) (hn : n ≤ 16384) (w : World) : (Instr.makeSlice 24 (.int .i64 (n : Nat)) (.int .i64 (n : Nat))).run Try.prog w = .ok (.slice (some ⟨w.heap.size, 0, none⟩) n n) (w.alloc (.cells (iv (List.replicate n 0)).toArray 3)) := by
  have := run_make_row' (P := Try.prog) 24 3 (.int .i64 0) 8 Try.underlying24 info3n rfl .i64 .i64 n (by omega) (by omega) w
  rw [made_list] at this
  rw [iv_rep, List.toArray_replicate]
  exact this
/-- The best of the pairs that were looked at. -/
def Bst (n : Nat) (lt : Nat × Nat → Nat × Nat → Prop) (G : List (Nat × Nat)) (S : Nat × Nat → Prop) (u p : Int) : Prop :=
  (u = -1 ∧ p = -1 ∧ ∀ e, InN n e → S e → ¬ Free G e) ∨ ∃ a b : Nat, u = (a : Int) ∧ p = (b : Int) ∧ InN n (a, b) ∧ Free G (a, b) ∧ ∀ e, InN n e → S e → Free G e → ¬ lt e (a, b)
def Sc (i k : Nat) (e : Nat × Nat) : Prop := e.1 < i ∨ (e.1 = i ∧ e.2 < k)
section
variable {n : Nat} {lt : Nat × Nat → Nat × Nat → Prop} {G : List (Nat × Nat)} {i k : Nat} {u p : Int}
theorem sc_succ {e : Nat × Nat} (h : Sc i (k + 1) e) : Sc i k e ∨ e = (i, k) := by
  rcases h with h | ⟨h1, h2⟩
  · exact .inl (.inl h)
  · rcases Nat.lt_or_ge e.2 k with c | c
    · exact .inl (.inr ⟨h1, c⟩)
    · exact .inr (Prod.ext h1 (by show e.2 = k; omega))
theorem Bst.zero : Bst n lt G (Sc 0 0) (-1) (-1) := .inl ⟨rfl, rfl, fun e _ h => by unfold Sc at h; omega⟩
theorem Bst.sub {S S' : Nat × Nat → Prop} (h : Bst n lt G S u p) (hs : ∀ e, InN n e → S' e → S e) : Bst n lt G S' u p := by
  rcases h with ⟨h1, h2, h3⟩ | ⟨a, b, h1, h2, h3, h4, h5⟩
  · exact .inl ⟨h1, h2, fun e he hS => h3 e he (hs e he hS)⟩
  · exact .inr ⟨a, b, h1, h2, h3, h4, fun e he hS => h5 e he (hs e he hS)⟩
theorem Bst.row (h : Bst n lt G (Sc i n) u p) : Bst n lt G (Sc (i + 1) 0) u p := h.sub fun e he hS => by
  have := he.2
  unfold Sc at hS ⊢
  omega
theorem Bst.skip (h : Bst n lt G (Sc i k) u p) (hn : ¬ Free G (i, k)) : Bst n lt G (Sc i (k + 1)) u p := by
  rcases h with ⟨h1, h2, h3⟩ | ⟨a, b, h1, h2, h3, h4, h5⟩
  · refine .inl ⟨h1, h2, fun e he hS => ?_⟩
    rcases sc_succ hS with c | rfl
    · exact h3 e he c
    · exact hn
  · refine .inr ⟨a, b, h1, h2, h3, h4, fun e he hS hf => ?_⟩
    rcases sc_succ hS with c | rfl
    · exact h5 e he c hf
    · exact absurd hf hn
theorem Bst.first (ho : OrdP lt) (h : ∀ e, InN n e → Sc i k e → ¬ Free G e) (hi : InN n (i, k)) (hf : Free G (i, k)) : Bst n lt G (Sc i (k + 1)) (i : Nat) (k : Nat) := .inr ⟨i, k, rfl, rfl, hi, hf, fun e he hS hfe => by
  rcases sc_succ hS with c | rfl
  · exact absurd hfe (h e he c)
  · exact ho.irr _⟩
theorem Bst.less (ho : OrdP lt) {a b : Nat} (h : ∀ e, InN n e → Sc i k e → Free G e → ¬ lt e (a, b)) (hi : InN n (i, k)) (hf : Free G (i, k)) (hl : lt (i, k) (a, b)) : Bst n lt G (Sc i (k + 1)) (i : Nat) (k : Nat) := .inr ⟨i, k, rfl, rfl, hi, hf, fun e he hS hfe => by
  rcases sc_succ hS with c | rfl
  · exact fun q => h e he c hfe (ho.tr _ _ _ q hl)
  · exact ho.irr _⟩
theorem Bst.stay {a b : Nat} (h : ∀ e, InN n e → Sc i k e → Free G e → ¬ lt e (a, b)) (hi : InN n (a, b)) (hf : Free G (a, b)) (hl : ¬ lt (i, k) (a, b)) : Bst n lt G (Sc i (k + 1)) (a : Nat) (b : Nat) := .inr ⟨a, b, rfl, rfl, hi, hf, fun e he hS hfe => by
  rcases sc_succ hS with c | rfl
  · exact h e he c hfe
  · exact hl⟩
theorem Bst.all (h : Bst n lt G (Sc n 0) u p) (hl : G.length < n) : ∃ a b : Nat, u = (a : Int) ∧ p = (b : Int) ∧ InN n (a, b) ∧ Free G (a, b) ∧ ∀ e, InN n e → Free G e → ¬ lt e (a, b) := by
  have hs : ∀ e, InN n e → Sc n 0 e := fun e he => .inl he.1
  rcases h with ⟨h1, h2, h3⟩ | ⟨a, b, h1, h2, h3, h4, h5⟩
  · obtain ⟨e, he, hf⟩ := more_left hl
    exact absurd hf (h3 e he (hs e he))
  · exact ⟨a, b, h1, h2, h3, h4, fun e he => h5 e he (hs e he)⟩
end
/-- The rows of the document's Match. -/
structure RMt (w0 w : World) (n : Nat) (Bm Bt : Nat) (M : List Int) (T : List Bool) : Prop where
  km : Bk w Bm 3 (iv M)
  kt : Bk w Bt 4 (bv T)
  bel : Below w0.heap.size w0 w
theorem RMt.upto {w0 w w' : World} {n Bm Bt : Nat} {M : List Int} {T : List Bool} (h : RMt w0 w n Bm Bt M T) (hb : Below w.heap.size w w') : RMt w0 w' n Bm Bt M T :=
  ⟨h.km.upto hb, h.kt.upto hb, h.bel.trans (hb.mono h.bel.size)⟩
theorem RMt.ne {w0 w : World} {n Bm Bt : Nat} {M : List Int} {T : List Bool} (h : RMt w0 w n Bm Bt M T) : ¬ Bm = Bt := fun e => absurd (h.km.one (by rw [e]; exact h.kt)).1 (by decide)
theorem RMt.setM {w0 w : World} {n Bm Bt : Nat} {M : List Int} {T : List Bool} (h : RMt w0 w n Bm Bt M T) (hl : w0.heap.size ≤ Bm) (u : Nat) (x : Int) : RMt w0 (w.setCell ⟨Bm, u, none⟩ (.int .i64 x)) n Bm Bt (M.set u x) T := by
  have TZ : Turns (fun g => Bm = g) w (w.setCell ⟨Bm, u, none⟩ (.int .i64 x)) := Turns.set (p := ⟨Bm, u, none⟩) _ rfl _
  exact ⟨by rw [← iv_set]; exact h.km.set u _, h.kt.kept TZ h.ne, h.bel.trans (TZ.below (fun g e => by rw [← e]; exact hl) h.bel.size)⟩
theorem RMt.setT {w0 w : World} {n Bm Bt : Nat} {M : List Int} {T : List Bool} (h : RMt w0 w n Bm Bt M T) (hl : w0.heap.size ≤ Bt) (u : Nat) (x : Bool) : RMt w0 (w.setCell ⟨Bt, u, none⟩ (.bool x)) n Bm Bt M (T.set u x) := by
  have TZ : Turns (fun g => Bt = g) w (w.setCell ⟨Bt, u, none⟩ (.bool x)) := Turns.set (p := ⟨Bt, u, none⟩) _ rfl _
  exact ⟨h.km.kept TZ (fun e => h.ne e.symm), by rw [← bv_set]; exact h.kt.set u _, h.bel.trans (TZ.below (fun g e => by rw [← e]; exact hl) h.bel.size)⟩
theorem neg_all {n : Nat} {M : List Int} (hl : M.length = n) (h : ∀ j, j < n → M[j]? = some (-1)) : M = mF n [] := by
  rw [mF_nil]
  refine List.ext_getElem? fun j => ?_
  rcases Nat.lt_or_ge j n with c | c
  · rw [h j c]; simp [c]
  · rw [List.getElem?_eq_none (by omega), List.getElem?_eq_none (by simp; omega)]
theorem neg_more {M : List Int} {k : Nat} (h : ∀ j, j < k → M[j]? = some (-1)) (hk : k < M.length) : ∀ j, j < k + 1 → (M.set k (-1))[j]? = some (-1) := fun j hj => by
  rcases Nat.lt_or_ge j k with c | c
  · rw [List.getElem?_set_ne (by omega)]; exact h j c
  · rw [show j = k by omega, List.getElem?_set_self hk]
set_option maxRecDepth 100000 in
set_option maxHeartbeats 16000000 in
theorem refmatch_is (us ps : Value) (U P : List (Int × Int)) (w : World) (hu : CeR w us U) (hp : CeR w ps P) : Calls Try.prog 9 #[us, ps] w (MtE w U P) := by
  obtain ⟨au, cu, rfl, hcu, hmu⟩ := hu.slice
  obtain ⟨ap, cp, rfl, hcp, hmp⟩ := hp.slice
  by_cases h0 : rfs U P = 0
  case neg =>
    have HR := hide (refuses_any _ _ U P w hu hp)
    obtain ⟨E, hE⟩ : ∃ E, rfs U P = E := ⟨_, rfl⟩
    have HE := hide hE
    rw [hE] at HR h0
    have hne : (E != 0) = true := by simpa using h0
    clear hu hp
    go_enter Try.func9, Try.ntmps9
    go_wp2_with fail
    refine HR.out.mono ?_
    rintro e w1 ⟨rfl, hb1⟩
    have HB1 := hide hb1
    clear hb1
    go_wp2_with fail
    refine bodyPost_ret (v := .tuple #[.slice none 0 0, .int .i64 E]) (by simp [results, Try.results9, go_sem]) rfl ?_
    exact ⟨_, _, [], rfl, HB1.out, Ir.nil _, (fun g e => by cases e), .inl ⟨by rw [HE.out]; exact h0, rfl, HE.out.symm⟩⟩
  obtain ⟨hn, hl, -, -⟩ := rfs_ok h0
  have HR := hide (refuses_any _ _ U P w hu hp)
  have HF := hide h0
  have HH := hide (And.intro hu hp)
  rw [h0] at HR
  obtain ⟨n, hnn⟩ : ∃ n, U.length = n := ⟨_, rfl⟩
  rw [hl] at hcp hmp HR HH ⊢
  rw [hnn] at hn hcu hmu hcp hmp HR HH hl ⊢
  have HL := hide (And.intro hnn hl)
  clear hu hp h0 hnn hl
  have hn63 : ((n : Nat) : Int) ≤ 64 := by omega
  go_enter Try.func9, Try.ntmps9
  go_wp2_with fail
  refine HR.out.mono ?_
  rintro e w1 ⟨rfl, hb1⟩
  have HB1 := hide hb1
  have HM1 := hide (make_ints n (by omega) w1)
  obtain ⟨X, hX⟩ : ∃ X, w1.alloc (.cells (iv (List.replicate n 0)).toArray 3) = X := ⟨_, rfl⟩
  rw [hX] at HM1
  have BX : Below w1.heap.size w1 X := by rw [← hX]; exact box1 _ _
  have KX : Bk X w1.heap.size 3 (iv (List.replicate n 0)) := by rw [← hX]; exact Bk.new _ _ _
  have HM2 := hide (make_bools n (by omega) X)
  obtain ⟨Y, hY⟩ : ∃ Y, X.alloc (.cells (bv (List.replicate n false)).toArray 4) = Y := ⟨_, rfl⟩
  rw [hY] at HM2
  have BY : Below X.heap.size X Y := by rw [← hY]; exact box1 _ _
  have KY : Bk Y X.heap.size 4 (bv (List.replicate n false)) := by rw [← hY]; exact Bk.new _ _ _
  have hlo : w.heap.size ≤ w1.heap.size ∧ w.heap.size ≤ X.heap.size := ⟨hb1.size, Nat.le_trans hb1.size BX.size⟩
  have R0 : RMt w Y n w1.heap.size X.heap.size (List.replicate n 0) (List.replicate n false) := ⟨KX.upto BY, KY, bt hb1 (bt BX BY)⟩
  obtain ⟨Bm, hBm⟩ : ∃ g, w1.heap.size = g := ⟨_, rfl⟩
  obtain ⟨Bt, hBt⟩ : ∃ g, X.heap.size = g := ⟨_, rfl⟩
  rw [hBm] at R0 hlo HM1
  rw [hBt] at R0 hlo HM2
  have HR0 := hide R0
  have HLO := hide hlo
  clear hb1 HR hX hY BX KX BY KY hlo R0 hBm hBt
  go_wp2_with (first | rw [HM1.out] | rw [HM2.out])
  go_loopw [9] (fun s9 wr => ∃ k : Nat, k ≤ n ∧ s9 = .int .i64 k ∧ ∃ M, M.length = n ∧ (∀ j, j < k → M[j]? = some (-1)) ∧ RMt w wr n Bm Bt M (List.replicate n false)) (fun s9 _ => n - (intOf s9).toNat)
  case atStart => exact ⟨0, Nat.zero_le _, rfl, _, by simp, fun j h => absurd h (Nat.not_lt_zero j), HR0.out⟩
  case round =>
    obtain ⟨k, hk, rfl, M, hML, hMk, hR⟩ := hrel
    clear HM1 HM2 HR0
    by_cases hlt : k < n
    · have hki : (k : Int) < (n : Nat) := by omega
      obtain ⟨x, hx⟩ : ∃ x, M[k]? = some x := ⟨_, List.getElem?_eq_getElem (by omega)⟩
      have c0 := hR.km.cell k _ (iv_at hx)
      have f0 := hR.km.frozen k
      have HN := hide (hR.setM HLO.out.1 k (-1))
      have HNE := hide (And.intro hML (neg_more hMk (by omega)))
      clear hR hx hML hMk
      go_wp2_with fail
      go_roundw
      case rel => exact ⟨k + 1, by omega, by go_num, _, by rw [List.length_set]; exact HNE.out.1, HNE.out.2, HN.out⟩
      case measure => simp [intOf]; omega
    · obtain rfl : k = n := by omega
      have hki : ¬ ((k : Nat) : Int) < (k : Nat) := by omega
      have hM := neg_all hML hMk
      rw [hM, ← tF_nil] at hR
      have HN := hide hR
      clear hR hM hML hMk
      go_wp2_with fail
      go_loopw [10] (fun s10 wr => ∃ j : Nat, j ≤ k ∧ s10 = .int .i64 j ∧ ∃ G, Grd k (ltD (dst U P)) G ∧ G.length = j ∧ RMt w wr k Bm Bt (mF k G) (tF k G)) (fun s10 _ => k - (intOf s10).toNat)
      case atStart => exact ⟨0, Nat.zero_le _, rfl, [], Grd.nil, rfl, HN.out⟩
      case round =>
        obtain ⟨j, hj, rfl, G, hG, hGl, hR⟩ := hrel
        clear HN
        by_cases hlt : j < k
        · have hji : (j : Int) < (k : Nat) := by omega
          have HG := hide (And.intro hG hGl)
          have HN := hide hR
          clear hR hG hGl
          go_wp2_with fail
          go_loopw [11, 12, 13] (fun s11 s12 s13 wr => ∃ i : Nat, i ≤ k ∧ s13 = .int .i64 i ∧ ∃ u p : Int, s11 = .int .i64 u ∧ s12 = .int .i64 p ∧ Bst k (ltD (dst U P)) G (Sc i 0) u p ∧ RMt w wr k Bm Bt (mF k G) (tF k G)) (fun _ _ s13 _ => k - (intOf s13).toNat)
          case atStart => exact ⟨0, Nat.zero_le _, rfl, _, _, rfl, rfl, Bst.zero, HN.out⟩
          case round =>
            obtain ⟨i, hi, rfl, u, p, rfl, rfl, hS, hR⟩ := hrel
            clear HN
            by_cases hlt2 : i < k
            · have hii : (i : Int) < (k : Nat) := by omega
              have HN := hide (And.intro hS hR)
              clear hR hS
              go_wp2_with fail
              go_loopw [11, 12, 14] (fun s11 s12 s14 wr => ∃ c : Nat, c ≤ k ∧ s14 = .int .i64 c ∧ ∃ u p : Int, s11 = .int .i64 u ∧ s12 = .int .i64 p ∧ Bst k (ltD (dst U P)) G (Sc i c) u p ∧ RMt w wr k Bm Bt (mF k G) (tF k G)) (fun _ _ s14 _ => k - (intOf s14).toNat)
              case atStart => exact ⟨0, Nat.zero_le _, rfl, _, _, rfl, rfl, HN.out.1, HN.out.2⟩
              case round =>
                obtain ⟨c, hc, rfl, u, p, rfl, rfl, hS, hR⟩ := hrel
                clear HN
                by_cases hlt3 : c < k
                · have hci : (c : Int) < (k : Nat) := by omega
                  have hin : InN k (i, c) := ⟨hlt2, hlt3⟩
                  obtain ⟨x, hx⟩ : ∃ x, (mF k G)[i]? = some x := ⟨_, List.getElem?_eq_getElem (by rw [mF_len]; exact hlt2)⟩
                  obtain ⟨b, hb, -⟩ := tF_get (n := k) G hlt3
                  have hfree := free_iff hin hx hb
                  have hneg := (neg_iff hlt2 hx).2
                  have m0 := hR.km.cell i _ (iv_at hx)
                  have t0 := hR.kt.cell c _ (bv_at hb)
                  have HRr := hide hR
                  clear hx hb
                  by_cases hx0 : x < 0
                  case neg =>
                    have HSk := hide (hS.skip (fun h => by have := (hfree.1 h).1; omega))
                    clear hS hR hfree hneg
                    go_wp2_with fail
                    go_roundw
                    case rel => exact ⟨c + 1, by omega, by go_num, _, _, rfl, rfl, HSk.out, HRr.out⟩
                    case measure => simp [intOf]; omega
                  obtain rfl : x = -1 := by omega
                  cases b
                  case true =>
                    have HSk := hide (hS.skip (fun h => by have := (hfree.1 h).2; cases this))
                    clear hS hR hfree hneg
                    go_wp2_with fail
                    go_roundw
                    case rel => exact ⟨c + 1, by omega, by go_num, _, _, rfl, rfl, HSk.out, HRr.out⟩
                    case measure => simp [intOf]; omega
                  have hfr := hfree.2 ⟨rfl, rfl⟩
                  rcases hS with ⟨rfl, rfl, h3⟩ | ⟨a, b, rfl, rfl, h3, h4, h5⟩
                  · have HSk := hide (Bst.first (lt := ltD (dst U P)) (ltD_ord _) h3 hin hfr)
                    clear h3 hR hfree hneg hfr
                    go_wp2_with fail
                    go_roundw
                    case rel => exact ⟨c + 1, by omega, by go_num, _, _, rfl, rfl, HSk.out, HRr.out⟩
                    case measure => simp [intOf]; omega
                  · have hna : ¬ ((a : Nat) : Int) < 0 := by omega
                    have HB := hide (before_is _ _ U P wr (HH.out.1.kept hR.bel) (HH.out.2.kept hR.bel) (by rw [HL.out.1]; exact hn) (by rw [HL.out.2]; exact hn) (u := i) (p := c) (v := a) (q := b) (by rw [HL.out.1]; exact hlt2) (by rw [HL.out.2]; exact hlt3) (by rw [HL.out.1]; exact h3.1) (by rw [HL.out.2]; exact h3.2))
                    have HL1 := hide (fun h => Bst.less (lt := ltD (dst U P)) (ltD_ord _) h5 hin hfr h)
                    have HL2 := hide (fun h => Bst.stay (lt := ltD (dst U P)) h5 h3 h4 h)
                    clear h3 h4 h5 hR hfree hneg hfr
                    go_wp2_with fail
                    refine HB.out.mono ?_
                    rintro e wz ⟨bb, rfl, hbb, hbz⟩
                    have HRz := hide (HRr.out.upto hbz)
                    clear hbz
                    cases bb
                    · have HSk := hide (HL2.out (fun h => by have := hbb.2 h; cases this))
                      clear hbb
                      go_wp2_with fail
                      go_roundw
                      case rel => exact ⟨c + 1, by omega, by go_num, _, _, rfl, rfl, HSk.out, HRz.out⟩
                      case measure => simp [intOf]; omega
                    · have HSk := hide (HL1.out (hbb.1 rfl))
                      clear hbb
                      go_wp2_with fail
                      go_roundw
                      case rel => exact ⟨c + 1, by omega, by go_num, _, _, rfl, rfl, HSk.out, HRz.out⟩
                      case measure => simp [intOf]; omega
                · obtain rfl : c = k := by omega
                  have hci : ¬ ((c : Nat) : Int) < (c : Nat) := by omega
                  have HN := hide (And.intro hS.row hR)
                  clear hS hR
                  go_wp2_with fail
                  go_roundw
                  case rel => exact ⟨i + 1, by omega, by go_num, _, _, rfl, rfl, HN.out.1, HN.out.2⟩
                  case measure => simp [intOf]; omega
            · obtain rfl : i = k := by omega
              have hii : ¬ ((i : Nat) : Int) < (i : Nat) := by omega
              obtain ⟨a, b, rfl, rfl, h3, h4, h5⟩ := hS.all (by rw [HG.out.2]; exact hlt)
              have ha : a < i := h3.1
              have hb : b < i := h3.2
              have hai : (a : Int) < (i : Nat) := by omega
              have hbi : (b : Int) < (i : Nat) := by omega
              obtain ⟨x, hx⟩ : ∃ x, (mF i G)[a]? = some x := ⟨_, List.getElem?_eq_getElem (by rw [mF_len]; exact ha)⟩
              obtain ⟨y, hy, -⟩ := tF_get (n := i) G hb
              have m0 := hR.km.cell a _ (iv_at hx)
              have f0 := hR.km.frozen a
              have R1 := hR.setM HLO.out.1 a (b : Nat)
              obtain ⟨Z, hZ⟩ : ∃ Z, wr.setCell ⟨Bm, a, none⟩ (.int .i64 (b : Nat)) = Z := ⟨_, rfl⟩
              rw [hZ] at R1
              have t0 := R1.kt.cell b _ (bv_at hy)
              have f1 := R1.kt.frozen b
              have HN := hide (R1.setT HLO.out.2 b true)
              have HG2 := hide (HG.out.1.snoc h3 h4 h5)
              have HZ := hide hZ
              clear hS hR hx hy R1 hZ h3 h4 h5
              go_wp2_with (rw [HZ.out])
              go_roundw
              case rel => exact ⟨j + 1, by omega, by go_num, _, HG2.out, by rw [List.length_append, HG.out.2]; rfl, by rw [mF_snoc, tF_snoc]; exact HN.out⟩
              case measure => simp [intOf]; omega
        · obtain rfl : j = k := by omega
          have hji : ¬ ((j : Nat) : Int) < (j : Nat) := by omega
          have HN := hide (And.intro hR (And.intro hG hGl))
          clear hR hG hGl
          go_wp2_with fail
          refine bodyPost_ret (v := .tuple #[.slice (some ⟨Bm, 0, none⟩) j j, .int .i64 0]) (by simp [results, Try.results9, go_sem]) rfl ?_
          have hR := HN.out.1
          have hI := hR.km.ir (by rw [mF_len]; unfold maxLen; omega)
          rw [mF_len] at hI
          exact ⟨_, _, _, rfl, hR.bel, hI, (fun g e => by cases e; exact HLO.out.1), .inr ⟨HF.out, rfl, G, by rw [HL.out.1]; exact HN.out.2.1, by rw [HL.out.1]; exact HN.out.2.2, by rw [HL.out.1]⟩⟩
end Go.Proofs.Ytmkoleioipklpaa
