/-
  The program's farthest: how far on along a path its line is legal. The program's Smooth.
-/
import Derived.Test.YtekpamilcpeanaaDoorLn
import Derived.Test.YtekpamilcpeanaaDoorDir
namespace Go.Proofs.YtekpamilcpeanaaDoor
open Go.RowKit Go.Shelf
set_option linter.unusedVariables false
set_option linter.unusedSimpArgs false
theorem Rline : Rcl 9 := zl fun _ _ => by go_simp
/-- The first cell of a path, as a slice. -/
theorem CeR.one {w : World} {a : Option Addr} {cap : Nat} {P : List (Int × Int)} {q : Int × Int} (h : CeR w (.slice a P.length cap) P) (hq : P[0]? = some q) : CeR w (.slice a 1 cap) [q] := by
  have hl := (List.getElem?_eq_some_iff.1 hq).1
  obtain ⟨a', cap', e, h1, h2, h3, h4⟩ := h
  injection e with e1 e2 e3
  subst e1; subst e3
  refine ⟨a, cap, rfl, by simp; omega, by simp [maxLen], fun h => by have := (h3 h).1; omega, fun i r hr => ?_⟩
  have hi := (List.getElem?_eq_some_iff.1 hr).1
  have : i = 0 := by simp at hi; omega
  subst this
  simp at hr
  subst hr
  exact h4 0 q hq
/-- What farthest tells: how many cells on, and the line to there. -/
def FarE (w : World) (x y : Int) (P : List (Int × Int)) (n : Nat) : Ending → World → Prop := fun e w' => ∃ lv L q, e = .returned (.tuple #[.int .i64 (n : Nat), lv]) ∧ CeR w' lv L ∧ Below w.heap.size w w' ∧ P[n - 1]? = some q ∧ (L = lineL x y q.1 q.2 ∨ (n = 1 ∧ L = [q]))
set_option maxRecDepth 100000 in
set_option maxHeartbeats 4000000 in
theorem far_is (p : Nat) (c s x y : Int) (v : Value) (P : List (Int × Int)) (S : Int → Int → Bool) (n : Nat) (w : World) (hv : CeR w v P) (hP : P ≠ []) (hn : far S x y P = n)
    (HLg : ∀ wx, Below w.heap.size w wx → ∀ v P, CeR wx v P → Calls Tryd.prog 32 #[ptr p, shv c s, cel x y, v] wx fun e w' => e = .returned (.bool (legV S x y P)) ∧ Below wx.heap.size wx w') :
    Calls Tryd.prog 33 #[ptr p, shv c s, cel x y, v] w (FarE w x y P n) := by
  have hv' := hv
  obtain ⟨a, cap, rfl, hcap, hmax, -, -⟩ := hv'
  have hl63 : (0 : Int) ≤ (P.length : Nat) ∧ ((P.length : Nat) : Int) ≤ 9223372036854775807 := by
    have : P.length ≤ 9223372036854775807 := hmax
    omega
  have hc63 : (1 : Int) ≤ (P.length : Nat) ∧ (1 : Int) ≤ (cap : Nat) := by have := List.length_pos_iff.2 hP; omega
  obtain ⟨X, hX⟩ : ∃ X, (w.alloc (.cells #[.int .i64 c, .int .i64 s] 37)).alloc (.cells #[.int .i64 x, .int .i64 y] 23) = X := ⟨_, rfl⟩
  have B0 : Below w.heap.size w X := by rw [← hX]; exact box2 _ _ _
  have S0 : Two X w.heap.size c s := by rw [← hX]; exact (Two.newAt rfl).alloc
  have C0 : Two X (w.heap.size + 1) x y := by rw [← hX]; exact Two.newAt (by simp)
  obtain ⟨m, hm⟩ : ∃ m : Nat, min P.length 32 = m := ⟨_, rfl⟩
  have hmi : (if ((P.length : Nat) : Int) < 32 then ((P.length : Nat) : Int) else 32) = (m : Nat) := by rw [← hm]; split <;> omega
  have hmi' : (if (32 : Int) < ((P.length : Nat) : Int) then 32 else ((P.length : Nat) : Int)) = (m : Nat) := by rw [← hm]; split <;> omega
  have hm2 : min ((P.length : Nat) : Int) 32 = (m : Nat) := by rw [← hm]; omega
  have hfar : farF S x y P m = n := by rw [← hm]; exact hn
  have hm1 : 1 ≤ m ∧ m ≤ P.length ∧ m ≤ 32 := by have := List.length_pos_iff.2 hP; omega
  have HX := hide hX
  have HI := hide (show Two X (w.heap.size + 1) x y ∧ Two X w.heap.size c s ∧ Below w.heap.size w X from ⟨C0, S0, B0⟩)
  have HV := hide hv
  have HLG := hide HLg
  clear hX B0 S0 C0 hn HLg
  go_enter Tryd.func33, Tryd.ntmps33
  go_wp2_with (rw [HX.out])
  clear hmi hmi' hm2 hm
  go_loopw [10] (fun s10 wr => ∃ k : Nat, 1 ≤ k ∧ k ≤ m ∧ s10 = .int .i64 k ∧ farF S x y P k = n ∧ Two wr (w.heap.size + 1) x y ∧ Two wr w.heap.size c s ∧ Below w.heap.size w wr) (fun s10 _ => (intOf s10).toNat)
  case atStart => exact ⟨m, hm1.1, Nat.le_refl _, rfl, hfar, HI.out⟩
  case round =>
    obtain ⟨k, hk1, hk2, rfl, hf, hT, hS, hB⟩ := hrel
    obtain ⟨⟨k0, k1⟩, -, -⟩ := id hT
    obtain ⟨⟨l0, l1⟩, -, -⟩ := id hS
    have hkb : (k : Int) ≤ 32 := by omega
    by_cases hg : 1 < k
    · have hgi : (1 : Int) < (k : Nat) := by omega
      obtain ⟨q, hq⟩ : ∃ q, P[k - 1]? = some q := ⟨_, List.getElem?_eq_getElem (by omega)⟩
      obtain ⟨Y, hY⟩ : ∃ Y, wr.drew = Y := ⟨_, rfl⟩
      have BY : Below wr.heap.size wr Y := by rw [← hY]; exact (Below.refl _ _).drew
      obtain ⟨g, o, hga, hgl, c0, c1⟩ : ∃ g o, a = some ⟨g, o, none⟩ ∧ g < Y.heap.size ∧ Y.cell? ⟨g, o + (k - 1) * 2, none⟩ = some (.int .i64 q.1) ∧ Y.cell? ⟨g, o + (k - 1) * 2 + 1, none⟩ = some (.int .i64 q.2) := by
        obtain ⟨a', cap', he', _, _, _, hform⟩ := HV.out.kept (bt hB BY)
        obtain ⟨g', o', hgg, h0, e1, e2⟩ := hform (k - 1) q hq
        injection he' with h1 h2 h3
        exact ⟨g', o', h1.trans hgg, h0, e1, e2⟩
      subst hga
      obtain ⟨j, hj⟩ : ∃ j : Nat, k - 1 = j := ⟨_, rfl⟩
      have hji : (k : Int) - 1 = (j : Nat) := by omega
      have hjl : (j : Int) < (P.length : Nat) := by omega
      have hw1 : IntKind.i64.wrap ((j : Nat) : Int) = (j : Nat) := by rw [IntKind.wrap_i64]; omega
      rw [hj] at hq c0 c1
      have hT' := hT.kept BY
      obtain ⟨⟨i0, i1⟩, -, -⟩ := id hT'
      have HYB := hide (And.intro hY (And.intro (bt hB BY) (And.intro hT' (hS.kept BY))))
      have HN := hide (And.intro hf (And.intro hq hj))
      have HLi := hide (line_any x y q.1 q.2 Y)
      clear hf hq hj hT hS hB hT' BY hY HI
      go_wp2_with fail
      refine wp_only ?_
      refine wp_region_z (fun wx : World => wx = Y) [6, 7] (by kernel_rfl) ?_
      rw [HYB.out.1]
      refine zx 0 6 8 rfl (by kernel_rfl) rfl ?_
      repeat (refine zxc rfl (by rfl) (fun wx hx => by subst hx; go_simp; rfl) ?_; simp only [zp])
      refine zxn ?_
      refine zw 6 [] (by kernel_rfl) ?_
      refine readyZ.call rfl rfl (Rline (by rfl) (by rfl) (by simp only [zj]; rfl)) HLi.out ?_ readyZ.nil
      rintro e W ⟨lv, rfl, hcn, hown, hbW⟩
      refine ⟨_, rfl, fun h => absurd (by decide) h, ?_⟩
      simp only [zp]
      refine zq 7 (by kernel_rfl) rfl rfl (run_as rfl rfl) (fun h => absurd (by decide) h) ?_
      refine anyZ_done (by kernel_rfl) ?_ _
      dsimp only [Only, Exit.then]
      simp only [zp]
      obtain ⟨la, lc, rfl⟩ := hcn.slice
      obtain ⟨hyd, hBY, hTY, hSY⟩ := HYB.out
      have hTW := hTY.kept hbW
      have hSW := hSY.kept hbW
      have hBW := bt hBY hbW
      clear k0 k1 l0 l1 i0 i1 c0 c1
      obtain ⟨⟨k0, k1⟩, -, -⟩ := id hTW
      obtain ⟨⟨l0, l1⟩, -, -⟩ := id hSW
      obtain ⟨hf, hq, hj⟩ := HN.out
      have HC := hide (HLG.out W hBW _ _ hcn.ceR)
      have HW := hide (And.intro hTW (And.intro hSW (And.intro hBW hcn.ceR)))
      cases hleg : legV S x y (lineL x y q.1 q.2)
      · rw [hleg] at HC
        have hf' := farF_miss (S := S) (x := x) (y := y) (P := P) (n := k) (by omega) (by rw [hj]; exact hq) hleg
        have HR := hide (show farF S x y P j = n by rw [← hf, hf', hj])
        have hj1 : 1 ≤ j ∧ j ≤ m := by omega
        have hjk : k = j + 1 := by omega
        clear hyd hBY hTY hSY hTW hSW hBW hcn hown hbW hf hq hj hf' hleg HN HYB HLi
        go_wp2_with fail
        refine HC.out.mono ?_
        rintro e W2 ⟨rfl, hb2⟩
        obtain ⟨hTW, hSW, hBW, hce⟩ := HW.out
        have HE := hide (show Two W2 (w.heap.size + 1) x y ∧ Two W2 w.heap.size c s ∧ Below w.heap.size w W2 from ⟨hTW.kept hb2, hSW.kept hb2, bt hBW hb2⟩)
        clear hb2 hTW hSW hBW hce k0 k1 l0 l1 HC HW
        go_wp2_with fail
        go_roundw
        case rel => exact ⟨j, hj1.1, hj1.2, rfl, HR.out, HE.out⟩
        case measure => simp [intOf]; omega
      · rw [hleg] at HC
        have hf' := farF_hit (S := S) (x := x) (y := y) (P := P) (n := k) (by omega) (by rw [hj]; exact hq) hleg
        have hkn : k = n := by rw [← hf, hf']
        have HR := hide (And.intro hkn (show P[n - 1]? = some q by rw [← hkn, hj]; exact hq))
        clear hyd hBY hTY hSY hTW hSW hBW hcn hown hbW hf hq hj hf' hleg HN HYB HLi hkn
        go_wp2_with fail
        refine HC.out.mono ?_
        rintro e W2 ⟨rfl, hb2⟩
        obtain ⟨hTW, hSW, hBW, hce⟩ := HW.out
        have HE := hide (And.intro (hce.kept hb2) (bt hBW hb2))
        clear hb2 hTW hSW hBW hce k0 k1 l0 l1 HC HW
        go_wp2_with fail
        obtain ⟨rfl, hq⟩ := HR.out
        refine bodyPost_ret (v := .tuple #[.int .i64 (k : Nat), .slice la (lineL x y q.1 q.2).length lc]) (by simp [results, Tryd.results33, go_sem]) rfl ⟨_, _, q, rfl, HE.out.1, HE.out.2, hq, .inl rfl⟩
    · have hgi : ¬ (1 : Int) < (k : Nat) := by omega
      have hk : k = 1 := by omega
      subst hk
      rw [farF] at hf
      subst hf
      obtain ⟨q, hq⟩ : ∃ q, P[0]? = some q := ⟨_, List.getElem?_eq_getElem (by omega)⟩
      have HE := hide (And.intro ((HV.out.kept hB).one hq) (And.intro hB hq))
      clear hT hS hB hq HI k0 k1 l0 l1
      have hcm : (cap : Int) ≤ 9223372036854775807 ∨ True := .inr trivial
      go_wp2_with fail
      refine wp_only ?_
      refine wp_region_z (fun wx : World => wx = wr.drew) [] (by kernel_rfl) ?_
      refine zx 0 4 8 rfl (by kernel_rfl) rfl ?_
      refine zxc rfl (by rfl) (fun wx hx => by subst hx; go_simp; rfl) ?_; simp only [zp]
      refine zxc (v := .slice a 1 cap) rfl (by rfl) (fun wx hx => by subst hx; go_simp) ?_; simp only [zp]
      refine zxc (v := .int .i64 1) rfl (by rfl) (fun wx hx => by subst hx; go_simp) ?_; simp only [zp]
      refine zxc (v := .slice a 1 cap) rfl (by rfl) (fun wx hx => by subst hx; go_simp) ?_; simp only [zp]
      refine zxn ?_
      refine anyZ_done (by kernel_rfl) ?_ _
      dsimp only [Only, Exit.then]
      go_wp2_with fail
      obtain ⟨h1, h2, hq⟩ := HE.out
      refine bodyPost_ret (v := .tuple #[.int .i64 ((1 : Nat) : Nat), .slice a 1 cap]) (by simp [results, Tryd.results33, go_sem]) rfl ⟨.slice a 1 cap, [q], q, rfl, h1.kept (Below.refl _ _).drew, h2.drew, hq, .inr ⟨rfl, rfl⟩⟩
end Go.Proofs.YtekpamilcpeanaaDoor
namespace Go.Proofs.YtekpamilcpeanaaDoor
open Go.RowKit Go.Shelf
set_option linter.unusedVariables false
set_option linter.unusedSimpArgs false
/-- From place k on, wherever the slice begins. -/
def hiR (g o cap n k : Nat) : Value := .slice (some (if cap = k then ⟨g, o, none⟩ else ⟨g, o + k * 2, none⟩)) (n - k) (cap - k)
theorem run_hiR {ev : Operand → Value} {o : Oper} {w : World} {x t : Operand} {g off n cap k : Nat} (ho : o.op = .slice 26 x (some t) none none) (hx : ev x = .slice (some ⟨g, off, none⟩) n cap) (ht : ev t = .int .i64 (k : Nat)) (hk : k ≤ n) (hn : n ≤ cap) :
    (execOp ev o).run Tryd.prog w = .ok (.value (hiR g off cap n k)) w := by
  have h1 : (0 : Int) ≤ (k : Nat) ∧ (k : Int) ≤ (n : Nat) ∧ (n : Int) ≤ (cap : Nat) := by omega
  unfold execOp hiR
  rw [ho]
  simp only [hx, ht]
  by_cases hc : cap = k
  · have hc' : cap - k = 0 := by omega
    rw [if_pos hc]
    go_simp
  · have hc' : ¬ cap - k = 0 := by omega
    rw [if_neg hc]
    go_simp
theorem CeR.dropR {w : World} {g o cap k : Nat} {P : List (Int × Int)} (h : CeR w (.slice (some ⟨g, o, none⟩) P.length cap) P) (hk : k ≤ P.length) : CeR w (hiR g o cap P.length k) (P.drop k) := by
  obtain ⟨a, c2, e, h1, h2, h3, h4⟩ := h
  injection e with e1 e2 e3
  subst e1; subst e3
  refine ⟨some (if cap = k then ⟨g, o, none⟩ else ⟨g, o + k * 2, none⟩), cap - k, by rw [List.length_drop]; rfl, by rw [List.length_drop]; omega, by rw [List.length_drop]; omega, (fun h => by cases h), fun i q hq => ?_⟩
  rw [List.getElem?_drop] at hq
  have hl := (List.getElem?_eq_some_iff.1 hq).1
  obtain ⟨g', o', e1, e2, c0, c1⟩ := h4 (k + i) q hq
  cases e1
  refine ⟨g, o + k * 2, by rw [if_neg (by omega)], e2, ?_, ?_⟩
  · rw [show o + k * 2 + i * 2 = o + (k + i) * 2 by omega]; exact c0
  · rw [show o + k * 2 + i * 2 + 1 = o + (k + i) * 2 + 1 by omega]; exact c1
/-- The smoothed path, or none. -/
def smO (S : Int → Int → Bool) (x y : Int) (P : List (Int × Int)) : Option (List (Int × Int)) := if P.length ≤ 16384 ∧ legV S x y P = true then some (smF S P.length x y P) else none
/-- What Smooth tells. -/
def SmE (w : World) : Option (List (Int × Int)) → Ending → World → Prop
  | some L, e, w' => ∃ v, e = .returned (.tuple #[v, .int .i64 0]) ∧ Cn w' v L ∧ (∀ k, v.ownBlock = some k → w.heap.size ≤ k) ∧ Below w.heap.size w w'
  | none, e, w' => e = .returned (.tuple #[.slice none 0 0, .int .i64 1]) ∧ Below w.heap.size w w'
/-- What the loop keeps. -/
structure SmI (w : World) (c s : Int) (S : Int → Int → Bool) (L : List (Int × Int)) (s10 s11 s12 : Value) (wr : World) (b : Nat) (fx fy : Int) (R acc : List (Int × Int)) (m : Nat) : Prop where
  at11 : s11 = ptr b
  two : Two wr b fx fy
  shp : Two wr w.heap.size c s
  rest : CeR w s12 R
  leg : legF S fx fy R = true
  row : Cn wr s10 acc
  own : ∀ k, s10.ownBlock = some k → w.heap.size + 1 < k ∧ k ≠ b
  blk : w.heap.size + 1 < b
  fuel : R.length ≤ m
  all : acc ++ smF S m fx fy R = L
  bl : Below w.heap.size w wr
set_option maxRecDepth 100000 in
set_option maxHeartbeats 4000000 in
theorem smooth_no (p : Nat) (c s x y : Int) (v : Value) (P : List (Int × Int)) (S : Int → Int → Bool) (w : World) (hv : CeR w v P) (ho : smO S x y P = none)
    (HLg : ∀ wx, Below w.heap.size w wx → ∀ x y v P, CeR wx v P → Calls Tryd.prog 32 #[ptr p, shv c s, cel x y, v] wx fun e w' => e = .returned (.bool (legV S x y P)) ∧ Below wx.heap.size wx w') :
    Calls Tryd.prog 16 #[ptr p, shv c s, cel x y, v] w (SmE w none) := by
  have hv' := hv
  obtain ⟨a, cap, rfl, hcap, hmax, -, -⟩ := hv'
  obtain ⟨X, hX⟩ : ∃ X, (w.alloc (.cells #[.int .i64 c, .int .i64 s] 37)).alloc (.cells #[.int .i64 x, .int .i64 y] 23) = X := ⟨_, rfl⟩
  have B0 : Below w.heap.size w X := by rw [← hX]; exact box2 _ _ _
  obtain ⟨⟨s0, s1⟩, -, -⟩ : Two X w.heap.size c s := by rw [← hX]; exact (Two.newAt rfl).alloc
  obtain ⟨⟨c0, c1⟩, -, -⟩ : Two X (w.heap.size + 1) x y := by rw [← hX]; exact Two.newAt (by simp)
  have HX := hide hX
  have HC := hide (HLg X B0 x y _ P (hv.kept B0))
  clear hX HLg
  by_cases hl : P.length ≤ 16384
  · have hl' : ¬ (16384 : Int) < (P.length : Nat) := by omega
    have hf : legV S x y P = false := by
      cases h : legV S x y P
      · rfl
      · rw [smO, if_pos ⟨hl, h⟩] at ho; cases ho
    rw [hf] at HC
    go_enter Tryd.func16, Tryd.ntmps16
    go_wp2_with (rw [HX.out])
    refine HC.out.mono ?_
    rintro e w1 ⟨rfl, hb1⟩
    have HB := hide (bt B0 hb1)
    clear hb1 B0 s0 s1 c0 c1
    go_wp2_with fail
    refine bodyPost_ret (v := .tuple #[.slice none 0 0, .int .i64 1]) (by simp [results, Tryd.results16, go_sem]) rfl ⟨rfl, HB.out⟩
  · have hl' : (16384 : Int) < (P.length : Nat) := by omega
    go_enter Tryd.func16, Tryd.ntmps16
    go_wp2_with (rw [HX.out])
    refine bodyPost_ret (v := .tuple #[.slice none 0 0, .int .i64 1]) (by simp [results, Tryd.results16, go_sem]) rfl ⟨rfl, B0⟩
set_option maxRecDepth 100000 in
set_option maxHeartbeats 8000000 in
theorem smooth_yes (p : Nat) (c s x y : Int) (v : Value) (P : List (Int × Int)) (S : Int → Int → Bool) (w : World) (hv : CeR w v P) (hl : P.length ≤ 16384) (hleg : legV S x y P = true)
    (HLg : ∀ wx, Below w.heap.size w wx → ∀ x y v P, CeR wx v P → Calls Tryd.prog 32 #[ptr p, shv c s, cel x y, v] wx fun e w' => e = .returned (.bool (legV S x y P)) ∧ Below wx.heap.size wx w') :
    Calls Tryd.prog 16 #[ptr p, shv c s, cel x y, v] w (SmE w (some (smF S P.length x y P))) := by
  have hlF : legF S x y P = true := by rw [legV, Bool.and_eq_true] at hleg; exact hleg.2
  have hgood := sm_good S P.length x y P (Nat.le_refl _) hlF
  obtain ⟨L, hL⟩ : ∃ L, smF S P.length x y P = L := ⟨_, rfl⟩
  have hLl : L.length ≤ 16384 := by rw [← hL]; exact Nat.le_trans hgood.2.2.2 hl
  have hv' := hv
  obtain ⟨a, cap, rfl, hcap, hmax, -, -⟩ := hv'
  obtain ⟨X, hX⟩ : ∃ X, (w.alloc (.cells #[.int .i64 c, .int .i64 s] 37)).alloc (.cells #[.int .i64 x, .int .i64 y] 23) = X := ⟨_, rfl⟩
  have B0 : Below w.heap.size w X := by rw [← hX]; exact box2 _ _ _
  have A0 : Two X w.heap.size c s := by rw [← hX]; exact (Two.newAt rfl).alloc
  have A1 : Two X (w.heap.size + 1) x y := by rw [← hX]; exact Two.newAt (by simp)
  obtain ⟨⟨s0, s1⟩, -, -⟩ := id A0
  obtain ⟨⟨c0, c1⟩, -, -⟩ := id A1
  have HX := hide hX
  have HC := hide (HLg X B0 x y _ P (hv.kept B0))
  rw [hleg] at HC
  have hl' : ¬ (16384 : Int) < (P.length : Nat) := by omega
  have HLG := hide HLg
  have HV := hide (And.intro hv (And.intro hlF hL))
  rw [hL]
  clear hX HLg hleg hlF hgood hL hv
  go_enter Tryd.func16, Tryd.ntmps16
  go_wp2_with (rw [HX.out])
  refine HC.out.mono ?_
  rintro e w1 ⟨rfl, hb1⟩
  have A0' := A0.kept hb1
  have A1' := A1.kept hb1
  have B1 := bt B0 hb1
  have sz1 := A1'.2.2
  have HI := hide (show SmI w c s S L (.slice none 0 0) (ptr w1.heap.size) (.slice a P.length cap) (w1.alloc (.cells #[.int .i64 x, .int .i64 y] 23)) w1.heap.size x y P [] P.length from {
    at11 := rfl
    two := Two.newAt rfl
    shp := A0'.alloc
    rest := HV.out.1
    leg := HV.out.2.1
    row := Rw.nil _ _ _ _
    own := fun k e => by cases e
    blk := by omega
    fuel := Nat.le_refl _
    all := HV.out.2.2
    bl := bt B1 (box1 _ _) })
  clear s0 s1 c0 c1
  obtain ⟨⟨s0, s1⟩, -, -⟩ := id A0'
  obtain ⟨⟨c0, c1⟩, -, -⟩ := id A1'
  clear A0 A1 A0' A1' B0 B1 hb1 sz1 HC HX
  go_wp2_with fail
  go_loopw [10, 11, 12] (fun s10 s11 s12 wr => ∃ b fx fy R acc m, SmI w c s S L s10 s11 s12 wr b fx fy R acc m) (fun _ _ s12 _ => lenV s12)
  case atStart => exact ⟨_, _, _, _, _, _, HI.out⟩
  case round =>
    obtain ⟨b, fx, fy, R, acc, m, hI⟩ := hrel
    obtain rfl := hI.at11
    clear s0 s1 c0 c1 HI
    obtain ⟨⟨k0, k1⟩, ⟨kf0, kf1⟩, kz⟩ := id hI.two
    obtain ⟨⟨l0, l1⟩, -, -⟩ := id hI.shp
    have hrs := hI.rest
    obtain ⟨ra, rc, rfl, hrc, hrm, hrn, -⟩ := hrs
    by_cases hR : R = []
    · subst hR
      have hall := hI.all
      rw [smF_nil, List.append_nil] at hall
      have HJ := hide (show SmE w (some L) (.returned (.tuple #[u10, .int .i64 0])) wr from ⟨u10, rfl, hall ▸ hI.row, fun k e => by have := hI.own k e; omega, hI.bl⟩)
      have hz : (([] : List (Int × Int)).length : Int) = 0 := rfl
      clear hI hall
      go_wp2_with fail
      refine bodyPost_ret (v := .tuple #[u10, .int .i64 0]) (by simp [results, Tryd.results16, go_sem]) rfl HJ.out
    · have hlR : 0 < R.length := List.length_pos_iff.2 hR
      have hlRi : (0 : Int) < (R.length : Nat) := by omega
      obtain ⟨n, hn⟩ : ∃ n, far S fx fy R = n := ⟨_, rfl⟩
      have HF := hide (far_is p c s fx fy _ R S n wr (hI.rest.kept hI.bl) hR hn (fun wx hx v P hc => HLG.out wx (bt hI.bl hx) fx fy v P hc))
      have hr := far_range (S := S) (x := fx) (y := fy) hR
      rw [hn] at hr
      obtain ⟨m', rfl⟩ : ∃ m', m = m' + 1 := ⟨m - 1, by have := hI.fuel; omega⟩
      have HI' := hide hI
      have HN := hide (And.intro hR hn)
      clear hI hR hn kf0 kf1 kz
      go_wp2_with fail
      refine HF.out.mono ?_
      rintro e w2 ⟨lv, M, q, rfl, hM, hb2, hq, hor⟩
      have hI := HI'.out
      obtain ⟨hR, hn⟩ := HN.out
      have hM2 : M = lineL fx fy q.1 q.2 := by
        rcases hor with h | ⟨h1, h2⟩
        · exact h
        · subst h1; rw [h2]; exact (far_one hI.leg hq).symm
      have hall := hI.all
      rw [smF_more hR hn hq, ← List.append_assoc, ← hM2] at hall
      have hlL : acc.length + M.length ≤ 1000000000 := by have := congrArg List.length hall; rw [List.length_append, List.length_append] at this; omega
      have hM0 := hM
      obtain ⟨la, lc, rfl, -⟩ := hM0
      obtain ⟨v7, W7, hr7, hc7, ho7, hT7⟩ := Cn.more (hI.row.upto hb2) hM hlL
      have hbk := hI.blk
      have bw2 := bt hI.bl hb2
      have hb7 : ∀ k, u10.ownBlock = some k → w.heap.size ≤ k := fun k e => by have := hI.own k e; omega
      have bw7 : Below w.heap.size w W7 := bw2.trans (hT7.below hb7 bw2.size)
      have t7 : Two W7 b fx fy := two_kept (hI.two.kept hb2) hT7 (fun e => (hI.own b e).2 rfl)
      have u7 : Two W7 w.heap.size c s := two_kept (hI.shp.kept hb2) hT7 (fun e => by have := (hI.own _ e).1; omega)
      -- the cell to which the line leads
      have hcR := hI.rest.kept bw7
      obtain ⟨g, o, hga, hgl, c0, c1⟩ : ∃ g o, ra = some ⟨g, o, none⟩ ∧ g < W7.heap.size ∧ W7.cell? ⟨g, o + (n - 1) * 2, none⟩ = some (.int .i64 q.1) ∧ W7.cell? ⟨g, o + (n - 1) * 2 + 1, none⟩ = some (.int .i64 q.2) := by
        obtain ⟨a', cap', he', _, _, _, hform⟩ := hcR
        obtain ⟨g', o', hgg, h0, e1, e2⟩ := hform (n - 1) q hq
        injection he' with h1 h2 h3
        exact ⟨g', o', h1.trans hgg, h0, e1, e2⟩
      subst hga
      have hrest : CeR w (hiR g o rc R.length n) (R.drop n) := hI.rest.dropR hr.2.1
      have hleg : legF S q.1 q.2 (R.drop n) = true := by
        have := (leg_at hI.leg hq).2.2.2.2.1
        rwa [show n - 1 + 1 = n by omega] at this
      obtain ⟨j, hj⟩ : ∃ j : Nat, n - 1 = j := ⟨_, rfl⟩
      rw [hj] at c0 c1
      have hji : (n : Int) - 1 = (j : Nat) := by omega
      have hjl : (j : Int) < (R.length : Nat) := by omega
      have hw1 : IntKind.i64.wrap ((j : Nat) : Int) = (j : Nat) := by rw [IntKind.wrap_i64]; omega
      obtain ⟨Y, hY⟩ : ∃ Y, W7.drew = Y := ⟨_, rfl⟩
      have BY : Below W7.heap.size W7 Y := by rw [← hY]; exact (Below.refl _ _).drew
      have hgY : Y.cell? ⟨g, o + j * 2, none⟩ = some (.int .i64 q.1) ∧ Y.cell? ⟨g, o + j * 2 + 1, none⟩ = some (.int .i64 q.2) := ⟨(BY.cell (p := ⟨g, _, none⟩) hgl).trans c0, (BY.cell (p := ⟨g, _, none⟩) hgl).trans c1⟩
      have tY := t7.kept BY
      have TZ := (Turns.set (S := fun j => j = b) Y (p := ⟨b, 0, none⟩) rfl (.int .i64 q.1)).trans (Turns.set (S := fun j => j = b ∨ Y.heap.size ≤ j) _ (p := ⟨b, 1, none⟩) (.inl rfl) (.int .i64 q.2))
      have tz := tY.set (s := q.1) (t := q.2)
      obtain ⟨Z, hZ⟩ : ∃ Z, (Y.setCell ⟨b, 0, none⟩ (.int .i64 q.1)).setCell ⟨b, 1, none⟩ (.int .i64 q.2) = Z := ⟨_, rfl⟩
      rw [hZ] at TZ tz
      have cz : Cn Z v7 (acc ++ M) := (hc7.upto BY).kept TZ (fun g e h => by
        have hk := ho7 g e
        rcases hk with h1 | h1
        · exact (hI.own g h1).2 h
        · have := (hI.two.kept hb2).2.2; omega)
      have uz : Two Z w.heap.size c s := two_kept (u7.kept BY) TZ (by omega)
      have bz : Below w.heap.size w Z := (bt bw7 BY).trans (TZ.below (fun k e => by omega) (bt bw7 BY).size)
      have hbZ : w.heap.size + 1 < Z.heap.size := by have := tz.2.2; omega
      have HJ := hide (show SmI w c s S L v7 (ptr Z.heap.size) (hiR g o rc R.length n) (Z.alloc (.cells #[.int .i64 q.1, .int .i64 q.2] 23)) Z.heap.size q.1 q.2 (R.drop n) (acc ++ M) m' from {
        at11 := rfl
        two := Two.newAt rfl
        shp := uz.alloc
        rest := hrest
        leg := hleg
        row := cz.upto (box1 _ _)
        own := fun k e => by
          have hk := (cz.lt k e).2
          refine ⟨?_, by omega⟩
          rcases ho7 k e with h1 | h1
          · exact (hI.own k h1).1
          · have := (hI.two.kept hb2).2.2; omega
        blk := hbZ
        fuel := by rw [List.length_drop]; have := hI.fuel; omega
        all := hall
        bl := bt bz (box1 _ _) })
      have HR7 := hide hr7
      have HYZ := hide (And.intro hY hZ)
      have HM := hide (show lenV (hiR g o rc R.length n) < lenV (.slice (some ⟨g, o, none⟩) R.length rc) by show R.length - n < R.length; omega)
      have Hn := hide (And.intro hr.2.1 (And.intro hrc hI.rest))
      obtain ⟨y0, y1⟩ := hgY
      have hgw : g < w.heap.size ∧ w.cell? ⟨g, o + j * 2, none⟩ = some (.int .i64 q.1) ∧ w.cell? ⟨g, o + j * 2 + 1, none⟩ = some (.int .i64 q.2) := by
        obtain ⟨a', cap', he', _, _, _, hform⟩ := hI.rest
        obtain ⟨g', o', hgg, h0, e1, e2⟩ := hform (n - 1) q hq
        injection he' with h1 h2 h3
        rw [← h1] at hgg
        cases hgg
        rw [hj] at e1 e2
        exact ⟨h0, e1, e2⟩
      have q0 : Z.cell? ⟨g, o + j * 2, none⟩ = some (.int .i64 q.1) := (bz.cell (p := ⟨g, _, none⟩) hgw.1).trans hgw.2.1
      have q1 : Z.cell? ⟨g, o + j * 2 + 1, none⟩ = some (.int .i64 q.2) := (bz.cell (p := ⟨g, _, none⟩) hgw.1).trans hgw.2.2
      obtain ⟨⟨k6, k7⟩, ⟨f6, f7⟩, -⟩ := id tY
      obtain ⟨⟨z6, z7⟩, -, -⟩ := id tz
      have hn32 : (n : Int) ≤ 32 ∧ (1 : Int) ≤ n := by omega
      clear hI hM hb2 hq hor hM2 hall hlL hr7 hc7 ho7 hT7 hbk bw2 hb7 bw7 t7 u7 hcR hgl c0 c1 hrest hleg hj BY tY TZ tz hZ hY cz uz bz hbZ hR hn HI' HN HF k0 k1 l0 l1 hgw
      go_wp2_with (at_builtin; refine wpList_append_run rfl _ _ 26 rfl _ _ rfl rfl HR7.out ?_)
      refine wp_only ?_
      refine wp_region_z (fun wx : World => wx = Y ∨ wx = Z) [9] (by kernel_rfl) ?_
      rw [HYZ.out.1]
      refine zx 0 8 12 rfl (by kernel_rfl) (.inl rfl) ?_
      iterate 2 (refine zxc rfl (by rfl) (fun wx hx => by go_simp; rfl) ?_; simp only [zp])
      refine zxc (v := .int .i64 (j : Nat)) rfl (by rfl) (fun wx hx => by go_simp) ?_
      simp only [zp]
      refine zxc rfl (by rfl) (fun wx hx => by go_simp; rfl) ?_
      simp only [zp]
      refine zxc (v := cel q.1 q.2) rfl (by rfl) (fun wx hx => by rcases hx with hx | hx <;> (subst hx; go_simp)) ?_
      simp only [zp]
      iterate 2 (refine zxc rfl (by rfl) (fun wx hx => by go_simp; rfl) ?_; simp only [zp])
      refine zxc (v := hiR g o rc R.length n) rfl (by rfl) (fun wx hx => run_hiR rfl rfl rfl Hn.out.1 Hn.out.2.1) ?_
      simp only [zp]
      refine zxn ?_
      refine zw 8 [] (by kernel_rfl) ?_
      refine readyZ.skip rfl rfl (by go_simp) (fun _ => .inr HYZ.out.2) ?_ readyZ.nil
      refine zq 9 (by kernel_rfl) rfl rfl (run_as rfl rfl) (fun h => absurd (by decide) h) ?_
      refine anyZ_done (by kernel_rfl) ?_ _
      dsimp only [Only, Exit.then]
      simp only [zp]
      rw [HYZ.out.2]
      go_wp2_with fail
      go_roundw
      case rel => exact ⟨_, _, _, _, _, _, HJ.out⟩
      case measure => exact HM.out
end Go.Proofs.YtekpamilcpeanaaDoor
