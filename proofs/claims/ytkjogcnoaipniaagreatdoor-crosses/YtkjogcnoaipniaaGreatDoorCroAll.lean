/-
  A step from a cluster into its neighbour: the border between has an open pair, also where the step goes over a corner. PortalCrosses walked.
-/
import Derived.Test.YtkjogcnoaipniaaGreatDoorDRun
import Derived.Test.YtkjogcnoaipniaaGreatDoorBetAll
namespace Go.Proofs.YtkjogcnoaipniaaGreatDoor
open Go.RowKit Go.Shelf
set_option linter.unusedVariables false
set_option linter.unusedSimpArgs false
section
variable {S : Int → Int → Bool} {W H : Int}
theorem lg_right {u v : Int} (hW : 1 ≤ W ∧ W ≤ 128) (hH : 1 ≤ H ∧ H ≤ 128) (hS : ∀ u v, S u v = true → (0 ≤ u ∧ u < W) ∧ 0 ≤ v ∧ v < H) (h1 : S u v = true) (h2 : S (u + 1) v = true) : lg S u v 0 = true := by
  have a1 := hS _ _ h1
  have a2 := hS _ _ h2
  have hb : sB u v 0 = true := by
    rw [sB, Bool.and_eq_true, Bool.and_eq_true, isD_iff, nrC_iff, nrC_iff]
    simp only [Int.toNat_zero, dX, dY]
    omega
  have hi : siB u v 0 = false := by simp [siB, oc]
  have e2 : S (u + dX 0) (v + dY 0) = true := by simp only [dX, dY, Int.add_zero]; exact h2
  unfold lg
  rw [hb, h1, hi, sX_yes hb, sY_yes hb, Int.toNat_zero, e2]
  rfl
theorem lg_down {u v : Int} (hW : 1 ≤ W ∧ W ≤ 128) (hH : 1 ≤ H ∧ H ≤ 128) (hS : ∀ u v, S u v = true → (0 ≤ u ∧ u < W) ∧ 0 ≤ v ∧ v < H) (h1 : S u v = true) (h2 : S u (v + 1) = true) : lg S u v 1 = true := by
  have a1 := hS _ _ h1
  have a2 := hS _ _ h2
  have hb : sB u v 1 = true := by
    rw [sB, Bool.and_eq_true, Bool.and_eq_true, isD_iff, nrC_iff, nrC_iff]
    simp only [show (1 : Int).toNat = 1 from rfl, dX, dY]
    omega
  have hi : siB u v 1 = false := by simp [siB, oc]
  have e2 : S (u + dX 1) (v + dY 1) = true := by simp only [dX, dY, Int.add_zero]; exact h2
  unfold lg
  rw [hb, h1, hi, sX_yes hb, sY_yes hb, show (1 : Int).toNat = 1 from rfl, e2]
  rfl
theorem run_h {u v : Int} (hW : 1 ≤ W ∧ W ≤ 128) (hH : 1 ≤ H ∧ H ≤ 128) (hS : ∀ u v, S u v = true → (0 ≤ u ∧ u < W) ∧ 0 ≤ v ∧ v < H) (h1 : S u v = true) (h2 : S (u + 1) v = true) (h8 : (u + 1) % 8 = 0) : rnR S W H (u / 8) (v / 8) 0 ≠ [] := by
  have a1 := hS _ _ h1
  have a2 := hS _ _ h2
  have hr : rB W H (u / 8) (v / 8) = true := (rB_iff hW hH).2 (by omega)
  rw [rnR, if_pos ⟨hr, .inl rfl⟩]
  intro hn
  have hf := runs_nil hn (v - v / 8 * 8).toNat (by omega)
  have e1 : clx 0 (bX W (u / 8) 0) (v - v / 8 * 8).toNat = u := by
    simp only [clx, bX, if_true, rS]
    omega
  have e2 : cly 0 (bY H (v / 8) 0) (v - v / 8 * 8).toNat = v := by
    simp only [cly, bY, if_true]
    omega
  rw [opB, e1, e2, lg_right hW hH hS h1 h2] at hf
  cases hf
theorem run_v {u v : Int} (hW : 1 ≤ W ∧ W ≤ 128) (hH : 1 ≤ H ∧ H ≤ 128) (hS : ∀ u v, S u v = true → (0 ≤ u ∧ u < W) ∧ 0 ≤ v ∧ v < H) (h1 : S u v = true) (h2 : S u (v + 1) = true) (h8 : (v + 1) % 8 = 0) : rnR S W H (u / 8) (v / 8) 1 ≠ [] := by
  have a1 := hS _ _ h1
  have a2 := hS _ _ h2
  have hr : rB W H (u / 8) (v / 8) = true := (rB_iff hW hH).2 (by omega)
  rw [rnR, if_pos ⟨hr, .inr rfl⟩]
  intro hn
  have hf := runs_nil hn (u - u / 8 * 8).toNat (by omega)
  have e1 : clx 1 (bX W (u / 8) 1) (u - u / 8 * 8).toNat = u := by
    simp only [clx, bX, if_neg (show ¬ (1 : Int) = 0 by decide)]
    omega
  have e2 : cly 1 (bY H (v / 8) 1) (u - u / 8 * 8).toNat = v := by
    simp only [cly, bY, if_neg (show ¬ (1 : Int) = 0 by decide), rS]
    omega
  rw [opB, e1, e2, lg_down hW hH hS h1 h2] at hf
  cases hf
/-- Around a legal step all four cells stand, or the step is straight. -/
theorem lg_four {x y d : Int} (hl : lg S x y d = true) : (0 ≤ d ∧ d < 8) ∧ (sX x y d = x + dX d.toNat ∧ sY x y d = y + dY d.toNat) ∧ S x y = true ∧ S (x + dX d.toNat) (y + dY d.toNat) = true ∧ S (x + dX d.toNat) y = true ∧ S x (y + dY d.toNat) = true := by
  unfold lg at hl
  rw [Bool.and_eq_true, Bool.and_eq_true, Bool.and_eq_true] at hl
  obtain ⟨h1, h2, h3, h4⟩ := hl
  have hd : 0 ≤ d ∧ d < 8 := by
    have := h1
    rw [sB, Bool.and_eq_true, Bool.and_eq_true, isD_iff] at this
    exact this.1.1
  rw [sX_yes h1, sY_yes h1] at h3 ⊢
  refine ⟨hd, ⟨rfl, rfl⟩, h2, h3, ?_⟩
  by_cases h : 4 ≤ d
  · have hi : siB x y d = true := by simp [siB, oc, h, h1]
    simp only [hi, Bool.not_true, Bool.false_or, Bool.and_eq_true, siX, siY, si0, if_true] at h4
    exact h4
  · have : d = 0 ∨ d = 1 ∨ d = 2 ∨ d = 3 := by omega
    rcases this with rfl | rfl | rfl | rfl
    · exact ⟨by simpa [dX, dY] using h3, by simpa [dX, dY] using h2⟩
    · exact ⟨by simpa [dX, dY] using h2, by simpa [dX, dY] using h3⟩
    · exact ⟨by simpa [dX, dY] using h3, by simpa [dX, dY] using h2⟩
    · exact ⟨by simpa [dX, dY] using h2, by simpa [dX, dY] using h3⟩
theorem cross_down {x y d tx ty kx ky : Int} (hW : 1 ≤ W ∧ W ≤ 128) (hH : 1 ≤ H ∧ H ≤ 128) (hS : ∀ u v, S u v = true → (0 ≤ u ∧ u < W) ∧ 0 ≤ v ∧ v < H) (hl : lg S x y d = true) (htx : sX x y d = tx) (hty : sY x y d = ty) (h1 : x / 8 = tx / 8) (h2 : ¬ y / 8 = ty / 8)
    (hk : (ty / 8 < y / 8 ∨ (ty / 8 = y / 8 ∧ tx / 8 < x / 8)) ∧ kx = tx / 8 ∧ ky = ty / 8 ∨ ¬ (ty / 8 < y / 8 ∨ (ty / 8 = y / 8 ∧ tx / 8 < x / 8)) ∧ kx = x / 8 ∧ ky = y / 8) : rnR S W H kx ky 1 ≠ [] := by
  obtain ⟨hd, ⟨e1, e2⟩, s1, s2, s3, s4⟩ := lg_four hl
  have r1 := dX_range d.toNat
  have r2 := dY_range d.toNat
  rw [e1] at htx
  rw [e2] at hty
  rw [hty] at s4
  subst htx
  rcases hk with ⟨q, rfl, rfl⟩ | ⟨q, rfl, rfl⟩
  · rw [← h1]
    refine run_v hW hH hS s4 ?_ (by omega)
    rw [show ty + 1 = y by omega]
    exact s1
  · refine run_v hW hH hS s1 ?_ (by omega)
    rw [show y + 1 = ty by omega]
    exact s4
theorem cross_right {x y d tx ty kx ky : Int} (hW : 1 ≤ W ∧ W ≤ 128) (hH : 1 ≤ H ∧ H ≤ 128) (hS : ∀ u v, S u v = true → (0 ≤ u ∧ u < W) ∧ 0 ≤ v ∧ v < H) (hl : lg S x y d = true) (htx : sX x y d = tx) (hty : sY x y d = ty) (h1 : ¬ x / 8 = tx / 8) (h2 : y / 8 = ty / 8)
    (hk : (ty / 8 < y / 8 ∨ (ty / 8 = y / 8 ∧ tx / 8 < x / 8)) ∧ kx = tx / 8 ∧ ky = ty / 8 ∨ ¬ (ty / 8 < y / 8 ∨ (ty / 8 = y / 8 ∧ tx / 8 < x / 8)) ∧ kx = x / 8 ∧ ky = y / 8) : rnR S W H kx ky 0 ≠ [] := by
  obtain ⟨hd, ⟨e1, e2⟩, s1, s2, s3, s4⟩ := lg_four hl
  have r1 := dX_range d.toNat
  have r2 := dY_range d.toNat
  rw [e1] at htx
  rw [e2] at hty
  rw [htx] at s3
  subst hty
  rcases hk with ⟨q, rfl, rfl⟩ | ⟨q, rfl, rfl⟩
  · rw [← h2]
    refine run_h hW hH hS s3 ?_ (by omega)
    rw [show tx + 1 = x by omega]
    exact s1
  · refine run_h hW hH hS s1 ?_ (by omega)
    rw [show x + 1 = tx by omega]
    exact s3
end
end Go.Proofs.YtkjogcnoaipniaaGreatDoor
namespace Go.Proofs.YtkjogcnoaipniaaGreatDoor
open Go.RowKit Go.Shelf
set_option linter.unusedVariables false
set_option linter.unusedSimpArgs false
attribute [local go_sem] Oper.semAt_some
theorem run_call17 {ev : Operand → Value} {o : Oper} {w : World} {ar : Array Operand} {ts : Array TypeId} {vs : Array Value} (hop : o.op = .call { callee := .value (.func 17), args := ar, argTypes := ts }) (hf : ev (.func 17) = .func (.func 17) #[] #[]) (hvs : ar.map ev = vs) : (execOp ev o).run Tryz.prog w = .ok (.enter 17 vs) w := by
  unfold execOp
  simp only [hop, resolve, hf, hvs]
  go_simp
theorem run_new35 {ev : Operand → Value} {o : Oper} {w : World} (hop : o.op = .alloc 35) : (execOp ev o).run Tryz.prog w = .ok (.value (ptr w.heap.size)) (w.alloc (.cells #[.int .i64 0, .int .i64 0] 35)) := by
  unfold execOp
  simp only [hop]
  go_simp
/-- What several ways lead to is proved once. -/
theorem by_way {A : Type} {F G : A → Prop} {C : Prop} (h1 : (∀ t, F t → G t) → C) (h2 : ∀ t, F t → G t) : C := h1 h2
def LssB (b : Bool) (bx by' ax ay : Int) : Prop := decide (by' < ay ∨ (by' = ay ∧ bx < ax)) = b
theorem by_way3 {F G : World → Nat → Nat → Prop} {C : Prop} (h1 : (∀ V p q, F V p q → G V p q) → C) (h2 : ∀ V p q, F V p q → G V p q) : C := h1 h2
set_option maxRecDepth 100000 in
set_option maxHeartbeats 16000000 in
theorem crow_is (W H : Int) (tv bv : Value) (tl : List Nat) (L : List Bd) (c s x y : Int) (w : World) (wfx : W64 x) (wfy : W64 y) (hv : TlR w tv tl) (hb : ∀ x ∈ tl, x < 256) (hl : BdR w bv L) (hg : Grnd w) (ho : Offs w) :
    Calls Tryz.prog 5 #[mp W H tv bv, shv c s, cel x y] w fun e w' => e = .returned (.bool true) ∧ Below w.heap.size w w' := by
  obtain ⟨X, hX⟩ : ∃ X, ((w.alloc (.cells #[.int .i64 W, .int .i64 H, tv, bv] 25)).alloc (.cells #[.int .i64 c, .int .i64 s] 27)).alloc (.cells #[.int .i64 x, .int .i64 y] 35) = X := ⟨_, rfl⟩
  have B0 : Below w.heap.size w X := hX ▸ bt (box2 _ _ _) (box1 _ _)
  have M0 : MB X w.heap.size W H tv bv := by rw [← hX]; exact ((MB.new w W H tv bv).kept (box1 _ _)).kept (box1 _ _)
  have T0 : Two X (w.heap.size + 1) c s := by rw [← hX]; exact (Two.newAt (by simp)).alloc
  have C0 : Two X (w.heap.size + 2) x y := by rw [← hX]; exact Two.newAt (by simp)
  have HAw : Hid (∀ wx, Below w.heap.size w wx → Calls Tryz.prog 7 #[] wx fun e w' => e = .returned (.bool true) ∧ Below wx.heap.size wx w') := hide fun wx q => awake_is wx (hg.kept q) (ho.kept q)
  have HX := hide hX
  have HB0 := hide B0
  have Hgo := hide (And.intro hg ho)
  have Hwf := hide (And.intro wfx wfy)
  have hvf := hv
  have hlf := hl
  obtain ⟨sa1, cap1, rfl, -⟩ := hvf
  obtain ⟨sa2, cap2, rfl, -⟩ := hlf
  obtain ⟨m0, m1, m2, m3⟩ := M0.c
  rcases chkC_two W H tl L with hc | hc
  · obtain ⟨wd, ht, rfl, rfl, hd⟩ := dims_is hc
    have HBo := hide (both_ok wd ht _ _ tl L X (hv.kept B0) hb (hl.kept B0) hc)
    clear hX B0 hv hl hb hg ho hc wfx wfy M0
    go_enter Tryz.func5, Tryz.ntmps5
    go_wp2_with fail
    rw [HX.out]
    try simp only [Nat.add_assoc, Nat.reduceAdd]
    refine HBo.out.mono ?_
    rintro e w1 ⟨p, r, rfl, hWn, hRl, hb1⟩
    have HW1 := hide hWn.1
    have HB1 := hide hb1
    have T1 := T0.kept hb1
    have C1 := C0.kept hb1
    obtain ⟨⟨s0, s1⟩, -, -⟩ := id T1
    have HOf := hide (of_gr (w := w1) c s hRl hd rfl)
    have HT1 := hide (And.intro T1 C1)
    clear hWn hRl hb1 T0 C0 T1 C1 m0 m1 m2 m3 HBo HX
    go_wp2_with fail
    refine HOf.out.mono ?_
    rintro e w2 ⟨iv, rfl, hiv, hb2⟩
    obtain ⟨a, cap, hivf, -, -⟩ := Rw.form cB_len hiv
    obtain ⟨n, hn⟩ : ∃ n, ((List.range (wd * ht)).map (fun k => stB wd ht tl (whoF L) c s ((k % wd : Nat) : Int) ((k / wd : Nat) : Int))).length = n := ⟨_, rfl⟩
    rw [hn] at hivf
    subst hivf
    obtain ⟨Zg, hZg⟩ : ∃ Zg, w2.alloc (.cells #[.int .i64 (wd : Nat), .int .i64 (ht : Nat), .slice a n cap] 38) = Zg := ⟨_, rfl⟩
    have BZg : Below w2.heap.size w2 Zg := by rw [← hZg]; exact box1 _ _
    have GZg : GB Zg w2.heap.size wd ht (.slice a n cap) := by rw [← hZg]; exact GB.new w2 wd ht _
    have hb1Z : Below w1.heap.size w1 Zg := bt hb2 BZg
    have hbW : Below w.heap.size w Zg := bt HB0.out (bt HB1.out hb1Z)
    have HK : Hid (∀ wx, Below Zg.heap.size Zg wx → (fun wx : World => (wx.cell? ⟨w.heap.size + 1, 0, none⟩ = some (.int .i64 c) ∧ wx.cell? ⟨w.heap.size + 1, 1, none⟩ = some (.int .i64 s)) ∧ (wx.cell? ⟨w.heap.size + 2, 0, none⟩ = some (.int .i64 x) ∧ wx.cell? ⟨w.heap.size + 2, 1, none⟩ = some (.int .i64 y)) ∧ wx.cell? ⟨w2.heap.size, 0, none⟩ = some (.int .i64 (wd : Nat)) ∧ wx.cell? ⟨w2.heap.size, 1, none⟩ = some (.int .i64 (ht : Nat)) ∧ wx.cell? ⟨w2.heap.size, 2, none⟩ = some (.slice a n cap)) wx) := hide fun wx q => ⟨((HT1.out.1.kept hb1Z).kept q).1, ((HT1.out.2.kept hb1Z).kept q).1, (GZg.upto q).c.1.1, (GZg.upto q).c.1.2, (GZg.upto q).c.2⟩
    have hgo := Hgo.out
    have hiv2 := hiv.upto BZg
    have hdI : (1 : Int) ≤ (wd : Nat) ∧ ((wd : Nat) : Int) ≤ 128 := by omega
    have hdJ : (1 : Int) ≤ (ht : Nat) ∧ ((ht : Nat) : Int) ≤ 128 := by omega
    have hSt : ∀ u v, stB wd ht tl (whoF L) c s u v = true → (0 ≤ u ∧ u < (wd : Nat)) ∧ 0 ≤ v ∧ v < (ht : Nat) := fun u v h => st_in hdI hdJ u v h
    have HP9 : Hid (∀ wx, Below Zg.heap.size Zg wx → ∀ kx ky d, Calls Tryz.prog 9 #[ptr p, shv c s, cel kx ky, .int .i64 d] wx fun e w' => ∃ a1 c1, e = .returned (.slice a1 (rnR (stB wd ht tl (whoF L) c s) wd ht kx ky d).length c1) ∧ Below wx.heap.size wx w') := hide fun wx q kx ky d => (pruns_is c s kx ky d (HW1.out.kept (bt hb1Z q)) (hgo.1.kept (bt hbW q)) (hgo.2.kept (bt hbW q)) hSt).mono fun e w' ⟨lv, he, row, hb, _⟩ => by
      obtain ⟨a1, c1, h⟩ := row.slice4
      rw [show (rnQ (stB wd ht tl (whoF L) c s) wd ht kx ky d).length = (rnR (stB wd ht tl (whoF L) c s) wd ht kx ky d).length by simp [rnQ]] at h
      exact ⟨a1, c1, by rw [he, h], hb⟩
    have HP12 : Hid (∀ wx, Below Zg.heap.size Zg wx → ∀ kx ky d, Calls Tryz.prog 12 #[ptr p, shv c s, cel kx ky, .int .i64 d] wx fun e w' => ∃ a1 c1, e = .returned (.slice a1 (rnR (stB wd ht tl (whoF L) c s) wd ht kx ky d).length c1) ∧ Below wx.heap.size wx w') := hide fun wx q kx ky d => (pbet_is c s kx ky d (HW1.out.kept (bt hb1Z q)) (hgo.1.kept (bt hbW q)) (hgo.2.kept (bt hbW q)) hSt).mono fun e w' ⟨lv, he, row, hb, _⟩ => by
      obtain ⟨a1, c1, h⟩ := row.slice4
      rw [show (ptQ (stB wd ht tl (whoF L) c s) wd ht kx ky d).length = (rnR (stB wd ht tl (whoF L) c s) wd ht kx ky d).length by simp [ptQ, btL]] at h
      exact ⟨a1, c1, by rw [he, h], hb⟩
    have HD16 : Hid (∀ wx, Below Zg.heap.size Zg wx → ∀ d : Int, Calls Tryz.prog 16 #[gdv wd ht (.slice a n cap), cel x y, .int .i64 d] wx fun e w' => e = .returned (.tuple #[cel (if lg (stB wd ht tl (whoF L) c s) x y d = true then sX x y d else 0) (if lg (stB wd ht tl (whoF L) c s) x y d = true then sY x y d else 0), .bool (lg (stB wd ht tl (whoF L) c s) x y d)]) ∧ Below wx.heap.size wx w') := hide fun wx q d => dst_is hd rfl (hiv2.upto q) d wx (Below.refl _ _) x y
    generalize stB wd ht tl (whoF L) c s = S at HP9 HP12 HD16 hSt
    have HSt := hide hSt
    have HdIJ := hide (And.intro hdI hdJ)
    have HBW := hide hbW
    have HZg := hide hZg
    clear hb2 BZg GZg hbW hb1Z hgo hiv hiv2 hSt hZg s0 s1 hdI hdJ HOf HT1 HW1 Hgo hn
    go_wp2_with (rw [HZg.out])
    go_loopw [11] (fun d wr => ∃ i : Nat, d = .int .i64 (i : Nat) ∧ i ≤ 8 ∧ Below Zg.heap.size Zg wr) (fun d _ => 8 - (intOf d).toNat)
    case atStart => exact ⟨0, rfl, Nat.zero_le _, Below.refl _ _⟩
    case round =>
      obtain ⟨i, rfl, hi, hbl⟩ := hrel
      by_cases hlt : i < 8
      · have hli : ((i : Nat) : Int) < 8 := by omega
        have hiI : (0 : Int) ≤ (i : Nat) ∧ ((i : Nat) : Int) ≤ 8 := by omega
        have H16a := HD16.out wr hbl ((i : Nat) : Int)
        obtain ⟨tx, htx⟩ : ∃ v, (if lg S x y ((i : Nat) : Int) = true then sX x y ((i : Nat) : Int) else 0) = v := ⟨_, rfl⟩
        obtain ⟨ty, hty⟩ : ∃ v, (if lg S x y ((i : Nat) : Int) = true then sY x y ((i : Nat) : Int) else 0) = v := ⟨_, rfl⟩
        obtain ⟨st, hst⟩ : ∃ v, lg S x y ((i : Nat) : Int) = v := ⟨_, rfl⟩
        have hwt : W64 tx ∧ W64 ty := by
          cases hq : lg S x y ((i : Nat) : Int)
          · rw [hq, if_neg (by decide)] at htx hty
            subst htx; subst hty
            exact ⟨w64_of (by omega), w64_of (by omega)⟩
          · obtain ⟨-, ⟨e1, e2⟩, -, s2, -, -⟩ := lg_four hq
            have := HSt.out _ _ s2
            have := HdIJ.out
            rw [hq, if_pos rfl] at htx hty
            rw [e1] at htx
            rw [e2] at hty
            rw [htx, hty] at s2
            have := HSt.out _ _ s2
            exact ⟨w64_of (by omega), w64_of (by omega)⟩
        have Htx : Hid (st = true → sX x y ((i : Nat) : Int) = tx ∧ sY x y ((i : Nat) : Int) = ty) := hide fun q => by
          rw [hst, q, if_pos rfl] at htx hty
          exact ⟨htx, hty⟩
        rw [htx, hty, hst] at H16a
        have H16 := hide H16a
        have Hst := hide hst
        obtain ⟨ax, hax⟩ : ∃ v, x / 8 = v := ⟨_, rfl⟩
        obtain ⟨ay, hay⟩ : ∃ v, y / 8 = v := ⟨_, rfl⟩
        obtain ⟨bx, hbx⟩ : ∃ v, tx / 8 = v := ⟨_, rfl⟩
        obtain ⟨by', hby⟩ : ∃ v, ty / 8 = v := ⟨_, rfl⟩
        have HO1 : Hid (∀ wx, Calls Tryz.prog 17 #[cel x y] wx fun e w' => e = .returned (cel ax ay) ∧ Below wx.heap.size wx w') := hide fun wx => by rw [← hax, ← hay]; exact refof_any x y Hwf.out.1 Hwf.out.2 wx
        have HO2 : Hid (∀ wx, Calls Tryz.prog 17 #[cel tx ty] wx fun e w' => e = .returned (cel bx by') ∧ Below wx.heap.size wx w') := hide fun wx => by rw [← hbx, ← hby]; exact refof_any tx ty hwt.1 hwt.2 wx
        have Hab := hide (And.intro (And.intro hax hay) (And.intro hbx hby))
        obtain ⟨-, ⟨c0, c1⟩, g0, g1, g2⟩ := HK.out wr hbl
        have Hbl := hide hbl
        clear H16a htx hty hst hax hay hbx hby hwt hbl
        go_wp2_with fail
        refine H16.out.mono ?_
        rintro e w3 ⟨rfl, hb3⟩
        obtain ⟨Zt, hZt⟩ : ∃ v, w3.alloc (.cells #[.int .i64 tx, .int .i64 ty] 35) = v := ⟨_, rfl⟩
        have BZt : Below w3.heap.size w3 Zt := by rw [← hZt]; exact box1 _ _
        have TZt : Two Zt w3.heap.size tx ty := by rw [← hZt]; exact Two.newAt rfl
        have HbZ : Hid (Below Zg.heap.size Zg Zt) := hide (bt Hbl.out (bt hb3 BZt))
        have HK9 : Hid (∀ wx, Below Zt.heap.size Zt wx → (fun wx : World => (wx.cell? ⟨w.heap.size + 2, 0, none⟩ = some (.int .i64 x) ∧ wx.cell? ⟨w.heap.size + 2, 1, none⟩ = some (.int .i64 y)) ∧ wx.cell? ⟨w3.heap.size, 0, none⟩ = some (.int .i64 tx) ∧ wx.cell? ⟨w3.heap.size, 1, none⟩ = some (.int .i64 ty)) wx) := hide fun wx q => ⟨(HK.out wx (bt HbZ.out q)).2.1, (TZt.kept q).1⟩
        have HS := HK9.out _ (Below.drew (Below.refl Zt.heap.size Zt))
        have HZt := hide hZt
        clear hZt BZt TZt hb3 c0 c1 g0 g1 g2 Hbl H16
        go_wp2_with (rw [HZt.out])
        refine wp_only ?_
        refine wp_region_z (fun wx : World => (wx.cell? ⟨w.heap.size + 2, 0, none⟩ = some (.int .i64 x) ∧ wx.cell? ⟨w.heap.size + 2, 1, none⟩ = some (.int .i64 y)) ∧ wx.cell? ⟨w3.heap.size, 0, none⟩ = some (.int .i64 tx) ∧ wx.cell? ⟨w3.heap.size, 1, none⟩ = some (.int .i64 ty)) [] (by kernel_rfl) ?_
        refine anyZ_take 0 30 (v := cel x y) rfl (by kernel_rfl) (fun _ _ _ h => h.elim) (Or.inl ⟨by rfl, fun wx hx => by obtain ⟨⟨p0, p1⟩, p2, p3⟩ := hx; clear HS; go_simp⟩) HS ?_
        try simp only [Act.put, List.getElem_toArray, List.getElem_cons_zero, List.getElem_cons_succ, List.setIfInBounds_toArray, List.set_cons_zero, List.set_cons_succ]
        refine anyZ_take 2 30 (v := cel tx ty) rfl (by kernel_rfl) (fun _ _ _ h => h.elim) (Or.inl ⟨by rfl, fun wx hx => by obtain ⟨⟨p0, p1⟩, p2, p3⟩ := hx; clear HS; go_simp⟩) HS ?_
        try simp only [Act.put, List.getElem_toArray, List.getElem_cons_zero, List.getElem_cons_succ, List.setIfInBounds_toArray, List.set_cons_zero, List.set_cons_succ]
        clear HS HZt
        obtain ⟨Y0, hY0⟩ : ∃ v, Zt.drew = v := ⟨_, rfl⟩
        have b0 : Below Zt.heap.size Zt Y0 := by rw [← hY0]; exact Below.drew (Below.refl Zt.heap.size Zt)
        rw [hY0]
        clear hY0
        refine by_way3 (F := fun V p4 q5 => Below Zt.heap.size Zt V ∧ Two V p4 0 0 ∧ Two V q5 0 0 ∧ Zt.heap.size ≤ p4 ∧ Zt.heap.size ≤ q5 ∧ p4 ≠ q5) (G := ?G) ?ways ?then2
        case ways =>
          intro HG
          refine anyZ_ready (rs := [1, 4, 5]) (by kernel_rfl) (by simp) ?_
          refine readyZ.call rfl rfl (run_call17 (by rfl) (by rfl) (by simp only [List.map_toArray, List.map_cons, List.map_nil]; rfl)) (HO1.out Y0) ?_ ?_
          · rintro e Y1 ⟨rfl, hY1⟩
            have b1 : Below Zt.heap.size Zt Y1 := bt b0 hY1
            refine ⟨_, rfl, fun _ => HK9.out _ b1, ?_⟩
            try simp only [Act.put, List.getElem_toArray, List.getElem_cons_zero, List.getElem_cons_succ, List.setIfInBounds_toArray, List.set_cons_zero, List.set_cons_succ]
            refine anyZ_ready (rs := [3, 4, 5]) (by kernel_rfl) (by simp) ?_
            refine readyZ.call rfl rfl (run_call17 (by rfl) (by rfl) (by simp only [List.map_toArray, List.map_cons, List.map_nil]; rfl)) (HO2.out Y1) ?_ ?_
            · rintro e Y2 ⟨rfl, hY2⟩
              have b2 : Below Zt.heap.size Zt Y2 := bt b1 hY2
              refine ⟨_, rfl, fun _ => HK9.out _ b2, ?_⟩
              try simp only [Act.put, List.getElem_toArray, List.getElem_cons_zero, List.getElem_cons_succ, List.setIfInBounds_toArray, List.set_cons_zero, List.set_cons_succ]
              refine anyZ_ready (rs := [4, 5]) (by kernel_rfl) (by simp) ?_
              refine readyZ.cons rfl rfl (run_new35 (by rfl)) (fun _ => HK9.out _ (bt b2 (box1 _ _))) ?_ ?_
              · try simp only [Act.put, List.getElem_toArray, List.getElem_cons_zero, List.getElem_cons_succ, List.setIfInBounds_toArray, List.set_cons_zero, List.set_cons_succ]
                obtain ⟨Y3, hY3⟩ : ∃ v, Y2.alloc (.cells #[.int .i64 0, .int .i64 0] 35) = v := ⟨_, rfl⟩
                obtain ⟨p, hp⟩ : ∃ v, Y2.heap.size = v := ⟨_, rfl⟩
                rw [hY3, hp]
                have b3 : Below Zt.heap.size Zt Y3 := by rw [← hY3]; exact bt b2 (box1 _ _)
                have lp : Zt.heap.size ≤ p := by rw [← hp]; exact b2.size
                have PT3 : Two Y3 p 0 0 := by rw [← hY3]; exact Two.newAt hp.symm
                refine anyZ_ready (rs := [5]) (by kernel_rfl) (by simp) ?_
                refine readyZ.cons rfl rfl (run_new35 (by rfl)) (fun _ => HK9.out _ (bt b3 (box1 _ _))) ?_ readyZ.nil
                try simp only [Act.put, List.getElem_toArray, List.getElem_cons_zero, List.getElem_cons_succ, List.setIfInBounds_toArray, List.set_cons_zero, List.set_cons_succ]
                obtain ⟨Y4, hY4⟩ : ∃ v, Y3.alloc (.cells #[.int .i64 0, .int .i64 0] 35) = v := ⟨_, rfl⟩
                obtain ⟨q, hq⟩ : ∃ v, Y3.heap.size = v := ⟨_, rfl⟩
                rw [hY4, hq]
                have b4 : Below Zt.heap.size Zt Y4 := by rw [← hY4]; exact bt b3 (box1 _ _)
                have lq : Zt.heap.size ≤ q := by rw [← hq]; exact b3.size
                have QT4 : Two Y4 q 0 0 := by rw [← hY4]; exact Two.newAt hq.symm
                have ne45 : p ≠ q := by have := PT3.2.2; omega
                have PT4 : Two Y4 p 0 0 := by rw [← hY4]; exact PT3.alloc
                exact HG Y4 p q ⟨b4, PT4, QT4, lp, lq, ne45⟩
              refine readyZ.cons rfl rfl (run_new35 (by rfl)) (fun _ => HK9.out _ (bt b2 (box1 _ _))) ?_ readyZ.nil
              try simp only [Act.put, List.getElem_toArray, List.getElem_cons_zero, List.getElem_cons_succ, List.setIfInBounds_toArray, List.set_cons_zero, List.set_cons_succ]
              obtain ⟨Y3, hY3⟩ : ∃ v, Y2.alloc (.cells #[.int .i64 0, .int .i64 0] 35) = v := ⟨_, rfl⟩
              obtain ⟨q, hq⟩ : ∃ v, Y2.heap.size = v := ⟨_, rfl⟩
              rw [hY3, hq]
              have b3 : Below Zt.heap.size Zt Y3 := by rw [← hY3]; exact bt b2 (box1 _ _)
              have lq : Zt.heap.size ≤ q := by rw [← hq]; exact b2.size
              have QT3 : Two Y3 q 0 0 := by rw [← hY3]; exact Two.newAt hq.symm
              refine anyZ_ready (rs := [4]) (by kernel_rfl) (by simp) ?_
              refine readyZ.cons rfl rfl (run_new35 (by rfl)) (fun _ => HK9.out _ (bt b3 (box1 _ _))) ?_ readyZ.nil
              try simp only [Act.put, List.getElem_toArray, List.getElem_cons_zero, List.getElem_cons_succ, List.setIfInBounds_toArray, List.set_cons_zero, List.set_cons_succ]
              obtain ⟨Y4, hY4⟩ : ∃ v, Y3.alloc (.cells #[.int .i64 0, .int .i64 0] 35) = v := ⟨_, rfl⟩
              obtain ⟨p, hp⟩ : ∃ v, Y3.heap.size = v := ⟨_, rfl⟩
              rw [hY4, hp]
              have b4 : Below Zt.heap.size Zt Y4 := by rw [← hY4]; exact bt b3 (box1 _ _)
              have lp : Zt.heap.size ≤ p := by rw [← hp]; exact b3.size
              have PT4 : Two Y4 p 0 0 := by rw [← hY4]; exact Two.newAt hp.symm
              have ne45 : p ≠ q := by have := QT3.2.2; omega
              have QT4 : Two Y4 q 0 0 := by rw [← hY4]; exact QT3.alloc
              exact HG Y4 p q ⟨b4, PT4, QT4, lp, lq, ne45⟩
            refine readyZ.cons rfl rfl (run_new35 (by rfl)) (fun _ => HK9.out _ (bt b1 (box1 _ _))) ?_ ?_
            · try simp only [Act.put, List.getElem_toArray, List.getElem_cons_zero, List.getElem_cons_succ, List.setIfInBounds_toArray, List.set_cons_zero, List.set_cons_succ]
              obtain ⟨Y2, hY2⟩ : ∃ v, Y1.alloc (.cells #[.int .i64 0, .int .i64 0] 35) = v := ⟨_, rfl⟩
              obtain ⟨p, hp⟩ : ∃ v, Y1.heap.size = v := ⟨_, rfl⟩
              rw [hY2, hp]
              have b2 : Below Zt.heap.size Zt Y2 := by rw [← hY2]; exact bt b1 (box1 _ _)
              have lp : Zt.heap.size ≤ p := by rw [← hp]; exact b1.size
              have PT2 : Two Y2 p 0 0 := by rw [← hY2]; exact Two.newAt hp.symm
              refine anyZ_ready (rs := [3, 5]) (by kernel_rfl) (by simp) ?_
              refine readyZ.call rfl rfl (run_call17 (by rfl) (by rfl) (by simp only [List.map_toArray, List.map_cons, List.map_nil]; rfl)) (HO2.out Y2) ?_ ?_
              · rintro e Y3 ⟨rfl, hY3⟩
                have b3 : Below Zt.heap.size Zt Y3 := bt b2 hY3
                have PT3 := PT2.kept hY3
                refine ⟨_, rfl, fun _ => HK9.out _ b3, ?_⟩
                try simp only [Act.put, List.getElem_toArray, List.getElem_cons_zero, List.getElem_cons_succ, List.setIfInBounds_toArray, List.set_cons_zero, List.set_cons_succ]
                refine anyZ_ready (rs := [5]) (by kernel_rfl) (by simp) ?_
                refine readyZ.cons rfl rfl (run_new35 (by rfl)) (fun _ => HK9.out _ (bt b3 (box1 _ _))) ?_ readyZ.nil
                try simp only [Act.put, List.getElem_toArray, List.getElem_cons_zero, List.getElem_cons_succ, List.setIfInBounds_toArray, List.set_cons_zero, List.set_cons_succ]
                obtain ⟨Y4, hY4⟩ : ∃ v, Y3.alloc (.cells #[.int .i64 0, .int .i64 0] 35) = v := ⟨_, rfl⟩
                obtain ⟨q, hq⟩ : ∃ v, Y3.heap.size = v := ⟨_, rfl⟩
                rw [hY4, hq]
                have b4 : Below Zt.heap.size Zt Y4 := by rw [← hY4]; exact bt b3 (box1 _ _)
                have lq : Zt.heap.size ≤ q := by rw [← hq]; exact b3.size
                have QT4 : Two Y4 q 0 0 := by rw [← hY4]; exact Two.newAt hq.symm
                have ne45 : p ≠ q := by have := PT3.2.2; omega
                have PT4 : Two Y4 p 0 0 := by rw [← hY4]; exact PT3.alloc
                exact HG Y4 p q ⟨b4, PT4, QT4, lp, lq, ne45⟩
              refine readyZ.cons rfl rfl (run_new35 (by rfl)) (fun _ => HK9.out _ (bt b2 (box1 _ _))) ?_ readyZ.nil
              try simp only [Act.put, List.getElem_toArray, List.getElem_cons_zero, List.getElem_cons_succ, List.setIfInBounds_toArray, List.set_cons_zero, List.set_cons_succ]
              obtain ⟨Y3, hY3⟩ : ∃ v, Y2.alloc (.cells #[.int .i64 0, .int .i64 0] 35) = v := ⟨_, rfl⟩
              obtain ⟨q, hq⟩ : ∃ v, Y2.heap.size = v := ⟨_, rfl⟩
              rw [hY3, hq]
              have b3 : Below Zt.heap.size Zt Y3 := by rw [← hY3]; exact bt b2 (box1 _ _)
              have lq : Zt.heap.size ≤ q := by rw [← hq]; exact b2.size
              have QT3 : Two Y3 q 0 0 := by rw [← hY3]; exact Two.newAt hq.symm
              have ne45 : p ≠ q := by have := PT2.2.2; omega
              have PT3 : Two Y3 p 0 0 := by rw [← hY3]; exact PT2.alloc
              refine anyZ_ready (rs := [3]) (by kernel_rfl) (by simp) ?_
              refine readyZ.call rfl rfl (run_call17 (by rfl) (by rfl) (by simp only [List.map_toArray, List.map_cons, List.map_nil]; rfl)) (HO2.out Y3) ?_ readyZ.nil
              rintro e Y4 ⟨rfl, hY4⟩
              have b4 : Below Zt.heap.size Zt Y4 := bt b3 hY4
              have QT4 := QT3.kept hY4
              have PT4 := PT3.kept hY4
              refine ⟨_, rfl, fun _ => HK9.out _ b4, ?_⟩
              try simp only [Act.put, List.getElem_toArray, List.getElem_cons_zero, List.getElem_cons_succ, List.setIfInBounds_toArray, List.set_cons_zero, List.set_cons_succ]
              exact HG Y4 p q ⟨b4, PT4, QT4, lp, lq, ne45⟩
            refine readyZ.cons rfl rfl (run_new35 (by rfl)) (fun _ => HK9.out _ (bt b1 (box1 _ _))) ?_ readyZ.nil
            try simp only [Act.put, List.getElem_toArray, List.getElem_cons_zero, List.getElem_cons_succ, List.setIfInBounds_toArray, List.set_cons_zero, List.set_cons_succ]
            obtain ⟨Y2, hY2⟩ : ∃ v, Y1.alloc (.cells #[.int .i64 0, .int .i64 0] 35) = v := ⟨_, rfl⟩
            obtain ⟨q, hq⟩ : ∃ v, Y1.heap.size = v := ⟨_, rfl⟩
            rw [hY2, hq]
            have b2 : Below Zt.heap.size Zt Y2 := by rw [← hY2]; exact bt b1 (box1 _ _)
            have lq : Zt.heap.size ≤ q := by rw [← hq]; exact b1.size
            have QT2 : Two Y2 q 0 0 := by rw [← hY2]; exact Two.newAt hq.symm
            refine anyZ_ready (rs := [3, 4]) (by kernel_rfl) (by simp) ?_
            refine readyZ.call rfl rfl (run_call17 (by rfl) (by rfl) (by simp only [List.map_toArray, List.map_cons, List.map_nil]; rfl)) (HO2.out Y2) ?_ ?_
            · rintro e Y3 ⟨rfl, hY3⟩
              have b3 : Below Zt.heap.size Zt Y3 := bt b2 hY3
              have QT3 := QT2.kept hY3
              refine ⟨_, rfl, fun _ => HK9.out _ b3, ?_⟩
              try simp only [Act.put, List.getElem_toArray, List.getElem_cons_zero, List.getElem_cons_succ, List.setIfInBounds_toArray, List.set_cons_zero, List.set_cons_succ]
              refine anyZ_ready (rs := [4]) (by kernel_rfl) (by simp) ?_
              refine readyZ.cons rfl rfl (run_new35 (by rfl)) (fun _ => HK9.out _ (bt b3 (box1 _ _))) ?_ readyZ.nil
              try simp only [Act.put, List.getElem_toArray, List.getElem_cons_zero, List.getElem_cons_succ, List.setIfInBounds_toArray, List.set_cons_zero, List.set_cons_succ]
              obtain ⟨Y4, hY4⟩ : ∃ v, Y3.alloc (.cells #[.int .i64 0, .int .i64 0] 35) = v := ⟨_, rfl⟩
              obtain ⟨p, hp⟩ : ∃ v, Y3.heap.size = v := ⟨_, rfl⟩
              rw [hY4, hp]
              have b4 : Below Zt.heap.size Zt Y4 := by rw [← hY4]; exact bt b3 (box1 _ _)
              have lp : Zt.heap.size ≤ p := by rw [← hp]; exact b3.size
              have PT4 : Two Y4 p 0 0 := by rw [← hY4]; exact Two.newAt hp.symm
              have ne45 : p ≠ q := by have := QT3.2.2; omega
              have QT4 : Two Y4 q 0 0 := by rw [← hY4]; exact QT3.alloc
              exact HG Y4 p q ⟨b4, PT4, QT4, lp, lq, ne45⟩
            refine readyZ.cons rfl rfl (run_new35 (by rfl)) (fun _ => HK9.out _ (bt b2 (box1 _ _))) ?_ readyZ.nil
            try simp only [Act.put, List.getElem_toArray, List.getElem_cons_zero, List.getElem_cons_succ, List.setIfInBounds_toArray, List.set_cons_zero, List.set_cons_succ]
            obtain ⟨Y3, hY3⟩ : ∃ v, Y2.alloc (.cells #[.int .i64 0, .int .i64 0] 35) = v := ⟨_, rfl⟩
            obtain ⟨p, hp⟩ : ∃ v, Y2.heap.size = v := ⟨_, rfl⟩
            rw [hY3, hp]
            have b3 : Below Zt.heap.size Zt Y3 := by rw [← hY3]; exact bt b2 (box1 _ _)
            have lp : Zt.heap.size ≤ p := by rw [← hp]; exact b2.size
            have PT3 : Two Y3 p 0 0 := by rw [← hY3]; exact Two.newAt hp.symm
            have ne45 : p ≠ q := by have := QT2.2.2; omega
            have QT3 : Two Y3 q 0 0 := by rw [← hY3]; exact QT2.alloc
            refine anyZ_ready (rs := [3]) (by kernel_rfl) (by simp) ?_
            refine readyZ.call rfl rfl (run_call17 (by rfl) (by rfl) (by simp only [List.map_toArray, List.map_cons, List.map_nil]; rfl)) (HO2.out Y3) ?_ readyZ.nil
            rintro e Y4 ⟨rfl, hY4⟩
            have b4 : Below Zt.heap.size Zt Y4 := bt b3 hY4
            have PT4 := PT3.kept hY4
            have QT4 := QT3.kept hY4
            refine ⟨_, rfl, fun _ => HK9.out _ b4, ?_⟩
            try simp only [Act.put, List.getElem_toArray, List.getElem_cons_zero, List.getElem_cons_succ, List.setIfInBounds_toArray, List.set_cons_zero, List.set_cons_succ]
            exact HG Y4 p q ⟨b4, PT4, QT4, lp, lq, ne45⟩
          refine readyZ.cons rfl rfl (run_new35 (by rfl)) (fun _ => HK9.out _ (bt b0 (box1 _ _))) ?_ ?_
          · try simp only [Act.put, List.getElem_toArray, List.getElem_cons_zero, List.getElem_cons_succ, List.setIfInBounds_toArray, List.set_cons_zero, List.set_cons_succ]
            obtain ⟨Y1, hY1⟩ : ∃ v, Y0.alloc (.cells #[.int .i64 0, .int .i64 0] 35) = v := ⟨_, rfl⟩
            obtain ⟨p, hp⟩ : ∃ v, Y0.heap.size = v := ⟨_, rfl⟩
            rw [hY1, hp]
            have b1 : Below Zt.heap.size Zt Y1 := by rw [← hY1]; exact bt b0 (box1 _ _)
            have lp : Zt.heap.size ≤ p := by rw [← hp]; exact b0.size
            have PT1 : Two Y1 p 0 0 := by rw [← hY1]; exact Two.newAt hp.symm
            refine anyZ_ready (rs := [1, 5]) (by kernel_rfl) (by simp) ?_
            refine readyZ.call rfl rfl (run_call17 (by rfl) (by rfl) (by simp only [List.map_toArray, List.map_cons, List.map_nil]; rfl)) (HO1.out Y1) ?_ ?_
            · rintro e Y2 ⟨rfl, hY2⟩
              have b2 : Below Zt.heap.size Zt Y2 := bt b1 hY2
              have PT2 := PT1.kept hY2
              refine ⟨_, rfl, fun _ => HK9.out _ b2, ?_⟩
              try simp only [Act.put, List.getElem_toArray, List.getElem_cons_zero, List.getElem_cons_succ, List.setIfInBounds_toArray, List.set_cons_zero, List.set_cons_succ]
              refine anyZ_ready (rs := [3, 5]) (by kernel_rfl) (by simp) ?_
              refine readyZ.call rfl rfl (run_call17 (by rfl) (by rfl) (by simp only [List.map_toArray, List.map_cons, List.map_nil]; rfl)) (HO2.out Y2) ?_ ?_
              · rintro e Y3 ⟨rfl, hY3⟩
                have b3 : Below Zt.heap.size Zt Y3 := bt b2 hY3
                have PT3 := PT2.kept hY3
                refine ⟨_, rfl, fun _ => HK9.out _ b3, ?_⟩
                try simp only [Act.put, List.getElem_toArray, List.getElem_cons_zero, List.getElem_cons_succ, List.setIfInBounds_toArray, List.set_cons_zero, List.set_cons_succ]
                refine anyZ_ready (rs := [5]) (by kernel_rfl) (by simp) ?_
                refine readyZ.cons rfl rfl (run_new35 (by rfl)) (fun _ => HK9.out _ (bt b3 (box1 _ _))) ?_ readyZ.nil
                try simp only [Act.put, List.getElem_toArray, List.getElem_cons_zero, List.getElem_cons_succ, List.setIfInBounds_toArray, List.set_cons_zero, List.set_cons_succ]
                obtain ⟨Y4, hY4⟩ : ∃ v, Y3.alloc (.cells #[.int .i64 0, .int .i64 0] 35) = v := ⟨_, rfl⟩
                obtain ⟨q, hq⟩ : ∃ v, Y3.heap.size = v := ⟨_, rfl⟩
                rw [hY4, hq]
                have b4 : Below Zt.heap.size Zt Y4 := by rw [← hY4]; exact bt b3 (box1 _ _)
                have lq : Zt.heap.size ≤ q := by rw [← hq]; exact b3.size
                have QT4 : Two Y4 q 0 0 := by rw [← hY4]; exact Two.newAt hq.symm
                have ne45 : p ≠ q := by have := PT3.2.2; omega
                have PT4 : Two Y4 p 0 0 := by rw [← hY4]; exact PT3.alloc
                exact HG Y4 p q ⟨b4, PT4, QT4, lp, lq, ne45⟩
              refine readyZ.cons rfl rfl (run_new35 (by rfl)) (fun _ => HK9.out _ (bt b2 (box1 _ _))) ?_ readyZ.nil
              try simp only [Act.put, List.getElem_toArray, List.getElem_cons_zero, List.getElem_cons_succ, List.setIfInBounds_toArray, List.set_cons_zero, List.set_cons_succ]
              obtain ⟨Y3, hY3⟩ : ∃ v, Y2.alloc (.cells #[.int .i64 0, .int .i64 0] 35) = v := ⟨_, rfl⟩
              obtain ⟨q, hq⟩ : ∃ v, Y2.heap.size = v := ⟨_, rfl⟩
              rw [hY3, hq]
              have b3 : Below Zt.heap.size Zt Y3 := by rw [← hY3]; exact bt b2 (box1 _ _)
              have lq : Zt.heap.size ≤ q := by rw [← hq]; exact b2.size
              have QT3 : Two Y3 q 0 0 := by rw [← hY3]; exact Two.newAt hq.symm
              have ne45 : p ≠ q := by have := PT2.2.2; omega
              have PT3 : Two Y3 p 0 0 := by rw [← hY3]; exact PT2.alloc
              refine anyZ_ready (rs := [3]) (by kernel_rfl) (by simp) ?_
              refine readyZ.call rfl rfl (run_call17 (by rfl) (by rfl) (by simp only [List.map_toArray, List.map_cons, List.map_nil]; rfl)) (HO2.out Y3) ?_ readyZ.nil
              rintro e Y4 ⟨rfl, hY4⟩
              have b4 : Below Zt.heap.size Zt Y4 := bt b3 hY4
              have QT4 := QT3.kept hY4
              have PT4 := PT3.kept hY4
              refine ⟨_, rfl, fun _ => HK9.out _ b4, ?_⟩
              try simp only [Act.put, List.getElem_toArray, List.getElem_cons_zero, List.getElem_cons_succ, List.setIfInBounds_toArray, List.set_cons_zero, List.set_cons_succ]
              exact HG Y4 p q ⟨b4, PT4, QT4, lp, lq, ne45⟩
            refine readyZ.cons rfl rfl (run_new35 (by rfl)) (fun _ => HK9.out _ (bt b1 (box1 _ _))) ?_ readyZ.nil
            try simp only [Act.put, List.getElem_toArray, List.getElem_cons_zero, List.getElem_cons_succ, List.setIfInBounds_toArray, List.set_cons_zero, List.set_cons_succ]
            obtain ⟨Y2, hY2⟩ : ∃ v, Y1.alloc (.cells #[.int .i64 0, .int .i64 0] 35) = v := ⟨_, rfl⟩
            obtain ⟨q, hq⟩ : ∃ v, Y1.heap.size = v := ⟨_, rfl⟩
            rw [hY2, hq]
            have b2 : Below Zt.heap.size Zt Y2 := by rw [← hY2]; exact bt b1 (box1 _ _)
            have lq : Zt.heap.size ≤ q := by rw [← hq]; exact b1.size
            have QT2 : Two Y2 q 0 0 := by rw [← hY2]; exact Two.newAt hq.symm
            have ne45 : p ≠ q := by have := PT1.2.2; omega
            have PT2 : Two Y2 p 0 0 := by rw [← hY2]; exact PT1.alloc
            refine anyZ_ready (rs := [1]) (by kernel_rfl) (by simp) ?_
            refine readyZ.call rfl rfl (run_call17 (by rfl) (by rfl) (by simp only [List.map_toArray, List.map_cons, List.map_nil]; rfl)) (HO1.out Y2) ?_ readyZ.nil
            rintro e Y3 ⟨rfl, hY3⟩
            have b3 : Below Zt.heap.size Zt Y3 := bt b2 hY3
            have QT3 := QT2.kept hY3
            have PT3 := PT2.kept hY3
            refine ⟨_, rfl, fun _ => HK9.out _ b3, ?_⟩
            try simp only [Act.put, List.getElem_toArray, List.getElem_cons_zero, List.getElem_cons_succ, List.setIfInBounds_toArray, List.set_cons_zero, List.set_cons_succ]
            refine anyZ_ready (rs := [3]) (by kernel_rfl) (by simp) ?_
            refine readyZ.call rfl rfl (run_call17 (by rfl) (by rfl) (by simp only [List.map_toArray, List.map_cons, List.map_nil]; rfl)) (HO2.out Y3) ?_ readyZ.nil
            rintro e Y4 ⟨rfl, hY4⟩
            have b4 : Below Zt.heap.size Zt Y4 := bt b3 hY4
            have QT4 := QT3.kept hY4
            have PT4 := PT3.kept hY4
            refine ⟨_, rfl, fun _ => HK9.out _ b4, ?_⟩
            try simp only [Act.put, List.getElem_toArray, List.getElem_cons_zero, List.getElem_cons_succ, List.setIfInBounds_toArray, List.set_cons_zero, List.set_cons_succ]
            exact HG Y4 p q ⟨b4, PT4, QT4, lp, lq, ne45⟩
          refine readyZ.cons rfl rfl (run_new35 (by rfl)) (fun _ => HK9.out _ (bt b0 (box1 _ _))) ?_ readyZ.nil
          try simp only [Act.put, List.getElem_toArray, List.getElem_cons_zero, List.getElem_cons_succ, List.setIfInBounds_toArray, List.set_cons_zero, List.set_cons_succ]
          obtain ⟨Y1, hY1⟩ : ∃ v, Y0.alloc (.cells #[.int .i64 0, .int .i64 0] 35) = v := ⟨_, rfl⟩
          obtain ⟨q, hq⟩ : ∃ v, Y0.heap.size = v := ⟨_, rfl⟩
          rw [hY1, hq]
          have b1 : Below Zt.heap.size Zt Y1 := by rw [← hY1]; exact bt b0 (box1 _ _)
          have lq : Zt.heap.size ≤ q := by rw [← hq]; exact b0.size
          have QT1 : Two Y1 q 0 0 := by rw [← hY1]; exact Two.newAt hq.symm
          refine anyZ_ready (rs := [1, 4]) (by kernel_rfl) (by simp) ?_
          refine readyZ.call rfl rfl (run_call17 (by rfl) (by rfl) (by simp only [List.map_toArray, List.map_cons, List.map_nil]; rfl)) (HO1.out Y1) ?_ ?_
          · rintro e Y2 ⟨rfl, hY2⟩
            have b2 : Below Zt.heap.size Zt Y2 := bt b1 hY2
            have QT2 := QT1.kept hY2
            refine ⟨_, rfl, fun _ => HK9.out _ b2, ?_⟩
            try simp only [Act.put, List.getElem_toArray, List.getElem_cons_zero, List.getElem_cons_succ, List.setIfInBounds_toArray, List.set_cons_zero, List.set_cons_succ]
            refine anyZ_ready (rs := [3, 4]) (by kernel_rfl) (by simp) ?_
            refine readyZ.call rfl rfl (run_call17 (by rfl) (by rfl) (by simp only [List.map_toArray, List.map_cons, List.map_nil]; rfl)) (HO2.out Y2) ?_ ?_
            · rintro e Y3 ⟨rfl, hY3⟩
              have b3 : Below Zt.heap.size Zt Y3 := bt b2 hY3
              have QT3 := QT2.kept hY3
              refine ⟨_, rfl, fun _ => HK9.out _ b3, ?_⟩
              try simp only [Act.put, List.getElem_toArray, List.getElem_cons_zero, List.getElem_cons_succ, List.setIfInBounds_toArray, List.set_cons_zero, List.set_cons_succ]
              refine anyZ_ready (rs := [4]) (by kernel_rfl) (by simp) ?_
              refine readyZ.cons rfl rfl (run_new35 (by rfl)) (fun _ => HK9.out _ (bt b3 (box1 _ _))) ?_ readyZ.nil
              try simp only [Act.put, List.getElem_toArray, List.getElem_cons_zero, List.getElem_cons_succ, List.setIfInBounds_toArray, List.set_cons_zero, List.set_cons_succ]
              obtain ⟨Y4, hY4⟩ : ∃ v, Y3.alloc (.cells #[.int .i64 0, .int .i64 0] 35) = v := ⟨_, rfl⟩
              obtain ⟨p, hp⟩ : ∃ v, Y3.heap.size = v := ⟨_, rfl⟩
              rw [hY4, hp]
              have b4 : Below Zt.heap.size Zt Y4 := by rw [← hY4]; exact bt b3 (box1 _ _)
              have lp : Zt.heap.size ≤ p := by rw [← hp]; exact b3.size
              have PT4 : Two Y4 p 0 0 := by rw [← hY4]; exact Two.newAt hp.symm
              have ne45 : p ≠ q := by have := QT3.2.2; omega
              have QT4 : Two Y4 q 0 0 := by rw [← hY4]; exact QT3.alloc
              exact HG Y4 p q ⟨b4, PT4, QT4, lp, lq, ne45⟩
            refine readyZ.cons rfl rfl (run_new35 (by rfl)) (fun _ => HK9.out _ (bt b2 (box1 _ _))) ?_ readyZ.nil
            try simp only [Act.put, List.getElem_toArray, List.getElem_cons_zero, List.getElem_cons_succ, List.setIfInBounds_toArray, List.set_cons_zero, List.set_cons_succ]
            obtain ⟨Y3, hY3⟩ : ∃ v, Y2.alloc (.cells #[.int .i64 0, .int .i64 0] 35) = v := ⟨_, rfl⟩
            obtain ⟨p, hp⟩ : ∃ v, Y2.heap.size = v := ⟨_, rfl⟩
            rw [hY3, hp]
            have b3 : Below Zt.heap.size Zt Y3 := by rw [← hY3]; exact bt b2 (box1 _ _)
            have lp : Zt.heap.size ≤ p := by rw [← hp]; exact b2.size
            have PT3 : Two Y3 p 0 0 := by rw [← hY3]; exact Two.newAt hp.symm
            have ne45 : p ≠ q := by have := QT2.2.2; omega
            have QT3 : Two Y3 q 0 0 := by rw [← hY3]; exact QT2.alloc
            refine anyZ_ready (rs := [3]) (by kernel_rfl) (by simp) ?_
            refine readyZ.call rfl rfl (run_call17 (by rfl) (by rfl) (by simp only [List.map_toArray, List.map_cons, List.map_nil]; rfl)) (HO2.out Y3) ?_ readyZ.nil
            rintro e Y4 ⟨rfl, hY4⟩
            have b4 : Below Zt.heap.size Zt Y4 := bt b3 hY4
            have PT4 := PT3.kept hY4
            have QT4 := QT3.kept hY4
            refine ⟨_, rfl, fun _ => HK9.out _ b4, ?_⟩
            try simp only [Act.put, List.getElem_toArray, List.getElem_cons_zero, List.getElem_cons_succ, List.setIfInBounds_toArray, List.set_cons_zero, List.set_cons_succ]
            exact HG Y4 p q ⟨b4, PT4, QT4, lp, lq, ne45⟩
          refine readyZ.cons rfl rfl (run_new35 (by rfl)) (fun _ => HK9.out _ (bt b1 (box1 _ _))) ?_ readyZ.nil
          try simp only [Act.put, List.getElem_toArray, List.getElem_cons_zero, List.getElem_cons_succ, List.setIfInBounds_toArray, List.set_cons_zero, List.set_cons_succ]
          obtain ⟨Y2, hY2⟩ : ∃ v, Y1.alloc (.cells #[.int .i64 0, .int .i64 0] 35) = v := ⟨_, rfl⟩
          obtain ⟨p, hp⟩ : ∃ v, Y1.heap.size = v := ⟨_, rfl⟩
          rw [hY2, hp]
          have b2 : Below Zt.heap.size Zt Y2 := by rw [← hY2]; exact bt b1 (box1 _ _)
          have lp : Zt.heap.size ≤ p := by rw [← hp]; exact b1.size
          have PT2 : Two Y2 p 0 0 := by rw [← hY2]; exact Two.newAt hp.symm
          have ne45 : p ≠ q := by have := QT1.2.2; omega
          have QT2 : Two Y2 q 0 0 := by rw [← hY2]; exact QT1.alloc
          refine anyZ_ready (rs := [1]) (by kernel_rfl) (by simp) ?_
          refine readyZ.call rfl rfl (run_call17 (by rfl) (by rfl) (by simp only [List.map_toArray, List.map_cons, List.map_nil]; rfl)) (HO1.out Y2) ?_ readyZ.nil
          rintro e Y3 ⟨rfl, hY3⟩
          have b3 : Below Zt.heap.size Zt Y3 := bt b2 hY3
          have PT3 := PT2.kept hY3
          have QT3 := QT2.kept hY3
          refine ⟨_, rfl, fun _ => HK9.out _ b3, ?_⟩
          try simp only [Act.put, List.getElem_toArray, List.getElem_cons_zero, List.getElem_cons_succ, List.setIfInBounds_toArray, List.set_cons_zero, List.set_cons_succ]
          refine anyZ_ready (rs := [3]) (by kernel_rfl) (by simp) ?_
          refine readyZ.call rfl rfl (run_call17 (by rfl) (by rfl) (by simp only [List.map_toArray, List.map_cons, List.map_nil]; rfl)) (HO2.out Y3) ?_ readyZ.nil
          rintro e Y4 ⟨rfl, hY4⟩
          have b4 : Below Zt.heap.size Zt Y4 := bt b3 hY4
          have PT4 := PT3.kept hY4
          have QT4 := QT3.kept hY4
          refine ⟨_, rfl, fun _ => HK9.out _ b4, ?_⟩
          try simp only [Act.put, List.getElem_toArray, List.getElem_cons_zero, List.getElem_cons_succ, List.setIfInBounds_toArray, List.set_cons_zero, List.set_cons_succ]
          exact HG Y4 p q ⟨b4, PT4, QT4, lp, lq, ne45⟩
        case then2 =>
          rintro V p4 q5 ⟨bV, T4, T5, l4, l5, hne⟩
          obtain ⟨⟨t0, t1⟩, ⟨t2, t3⟩, -⟩ := id T4
          refine anyZ_ready (rs := [6]) (by kernel_rfl) (by simp) ?_
          refine readyZ.skip rfl rfl (w' := (V.setCell ⟨p4, 0, none⟩ (.int .i64 ax)).setCell ⟨p4, 1, none⟩ (.int .i64 ay)) (by go_simp) (fun _ => HK9.out _ ((bV.setCell (p := ⟨p4, 0, none⟩) l4 _).setCell (p := ⟨p4, 1, none⟩) l4 _)) ?_ readyZ.nil
          try simp only [Act.put, List.getElem_toArray, List.getElem_cons_zero, List.getElem_cons_succ, List.setIfInBounds_toArray, List.set_cons_zero, List.set_cons_succ]
          obtain ⟨Z6, hZ6⟩ : ∃ v, (V.setCell ⟨p4, 0, none⟩ (.int .i64 ax)).setCell ⟨p4, 1, none⟩ (.int .i64 ay) = v := ⟨_, rfl⟩
          have B6 : Below Zt.heap.size Zt Z6 := by rw [← hZ6]; exact (bV.setCell (p := ⟨p4, 0, none⟩) l4 _).setCell (p := ⟨p4, 1, none⟩) l4 _
          have T46 : Two Z6 p4 ax ay := by rw [← hZ6]; exact T4.set
          have T56 : Two Z6 q5 0 0 := by rw [← hZ6]; exact T5.other (fun q => hne q.symm)
          rw [hZ6]
          clear hZ6 t0 t1 t2 t3 T4 T5 bV
          obtain ⟨⟨t0, t1⟩, ⟨t2, t3⟩, -⟩ := id T56
          refine anyZ_ready (rs := [7]) (by kernel_rfl) (by simp) ?_
          refine readyZ.skip rfl rfl (w' := (Z6.setCell ⟨q5, 0, none⟩ (.int .i64 bx)).setCell ⟨q5, 1, none⟩ (.int .i64 by')) (by go_simp) (fun _ => HK9.out _ ((B6.setCell (p := ⟨q5, 0, none⟩) l5 _).setCell (p := ⟨q5, 1, none⟩) l5 _)) ?_ readyZ.nil
          try simp only [Act.put, List.getElem_toArray, List.getElem_cons_zero, List.getElem_cons_succ, List.setIfInBounds_toArray, List.set_cons_zero, List.set_cons_succ]
          obtain ⟨Z7, hZ7⟩ : ∃ v, (Z6.setCell ⟨q5, 0, none⟩ (.int .i64 bx)).setCell ⟨q5, 1, none⟩ (.int .i64 by') = v := ⟨_, rfl⟩
          have B7 : Below Zt.heap.size Zt Z7 := by rw [← hZ7]; exact (B6.setCell (p := ⟨q5, 0, none⟩) l5 _).setCell (p := ⟨q5, 1, none⟩) l5 _
          have T4 : Two Z7 p4 ax ay := by rw [← hZ7]; exact T46.other hne
          have T5 : Two Z7 q5 bx by' := by rw [← hZ7]; exact T56.set
          rw [hZ7]
          clear hZ7 t0 t1 t2 t3 T46 T56 B6 HK9 HO1 HO2
          refine anyZ_done (by kernel_rfl) ?_ _
          dsimp only [Only, Exit.then]
          cases st
          · have HB7 : Hid (Below Zg.heap.size Zg Z7) := hide (bt HbZ.out B7)
            obtain ⟨⟨y0, y1⟩, -, -⟩ := id T4
            obtain ⟨⟨y2, y3⟩, -, -⟩ := id T5
            clear T4 T5 B7
            have HE : Hid (∃ i' : Nat, (Value.int .i64 (((i : Nat) : Int) + 1)) = .int .i64 (i' : Nat) ∧ i' ≤ 8 ∧ Below Zg.heap.size Zg Z7) := hide ⟨i + 1, by push_cast; rfl, by omega, HB7.out⟩
            go_wp2_with fail
            go_roundw
            case rel => exact HE.out
            case measure => simp [intOf]; omega
          · have Htz := hide (Htx.out rfl)
            have Hst2 := hide (show lg S x y ((i : Nat) : Int) = true from Hst.out)
            by_cases e1 : ax = bx
            · by_cases e2 : ay = by'
              · have hce : ∀ wx, (binOp .eql 35 (cel ax ay) (cel bx by')).run Tryz.prog wx = .ok (.bool true) wx := fun wx => (eqC _ _ _ _ wx).trans (by rw [decide_eq_true e1, decide_eq_true e2]; rfl)
                have HB7 : Hid (Below Zg.heap.size Zg Z7) := hide (bt HbZ.out B7)
                obtain ⟨⟨y0, y1⟩, -, -⟩ := id T4
                obtain ⟨⟨y2, y3⟩, -, -⟩ := id T5
                clear T4 T5 B7
                have HE : Hid (∃ i' : Nat, (Value.int .i64 (((i : Nat) : Int) + 1)) = .int .i64 (i' : Nat) ∧ i' ≤ 8 ∧ Below Zg.heap.size Zg Z7) := hide ⟨i + 1, by push_cast; rfl, by omega, HB7.out⟩
                go_wp2_with fail
                go_roundw
                case rel => exact HE.out
                case measure => simp [intOf]; omega
              · subst e1
                have hce : ∀ wx, (binOp .eql 35 (cel ax ay) (cel ax by')).run Tryz.prog wx = .ok (.bool false) wx := fun wx => (eqC _ _ _ _ wx).trans (by rw [decide_eq_false e2, Bool.and_false])
                obtain ⟨kb, hkb⟩ : ∃ v, Z7.heap.size = v := ⟨_, rfl⟩
                obtain ⟨Zk, hZk⟩ : ∃ v, Z7.alloc (.cells #[.int .i64 ax, .int .i64 ay] 35) = v := ⟨_, rfl⟩
                have Bk : Below Zt.heap.size Zt Zk := by rw [← hZk]; exact bt B7 (box1 _ _)
                have KT : Two Zk kb ax ay := by rw [← hZk]; exact Two.newAt hkb.symm
                have TA1 : Two Zk p4 ax ay := by rw [← hZk]; exact T4.alloc
                have TB1 : Two Zk q5 ax by' := by rw [← hZk]; exact T5.alloc
                have lk : Zt.heap.size ≤ kb := by rw [← hkb]; exact B7.size
                have nk4 : ¬ p4 = kb := by have := T4.2.2; omega
                have nk5 : ¬ q5 = kb := by have := T5.2.2; omega
                obtain ⟨⟨y0, y1⟩, -, -⟩ := id T4
                obtain ⟨⟨y2, y3⟩, -, -⟩ := id T5
                obtain ⟨⟨v0, v1⟩, -, -⟩ := id TA1
                obtain ⟨⟨v2, v3⟩, -, -⟩ := id TB1
                obtain ⟨lb, hlb⟩ : ∃ b, decide (by' < ay ∨ (by' = ay ∧ ax < ax)) = b := ⟨_, rfl⟩
                have HLs : Hid (∀ wx, Calls Tryz.prog 18 #[cel ax by', cel ax ay] wx fun e w' => e = .returned (.bool lb) ∧ Below wx.heap.size wx w') := hide fun wx => by rw [← hlb]; exact less_any ax by' ax ay wx
                have HZk := hide hZk
                have Hlb : Hid (LssB lb ax by' ax ay) := hide hlb
                have HKf := hide (And.intro KT (And.intro TA1 TB1))
                have HBk := hide (And.intro Bk lk)
                clear hZk hlb KT TA1 TB1 Bk lk T4 T5 B7
                go_wp2_with (rw [HZk.out])
                try rw [hkb]
                clear y0 y1 y2 y3
                refine (HLs.out _).mono ?_
                rintro e w5 ⟨rfl, hb5⟩
                clear v0 v1 v2 v3
                obtain ⟨KT, TA1, TB1⟩ := HKf.out
                obtain ⟨Bk, lk⟩ := HBk.out
                cases lb
                · have TA := TA1.kept hb5
                  have TB := TB1.kept hb5
                  obtain ⟨kx, hkx⟩ : ∃ v, ax = v := ⟨_, rfl⟩
                  obtain ⟨ky, hky⟩ : ∃ v, ay = v := ⟨_, rfl⟩
                  have TK : Two w5 kb kx ky := by rw [← hkx, ← hky]; exact KT.kept hb5
                  have B8 : Below Zt.heap.size Zt w5 := bt Bk hb5
                  have Hk0 : Hid ((ty / 8 < y / 8 ∨ (ty / 8 = y / 8 ∧ tx / 8 < x / 8)) ∧ kx = tx / 8 ∧ ky = ty / 8 ∨ ¬ (ty / 8 < y / 8 ∨ (ty / 8 = y / 8 ∧ tx / 8 < x / 8)) ∧ kx = x / 8 ∧ ky = y / 8) := hide (by
                    rw [Hab.out.1.1, Hab.out.1.2, Hab.out.2.1, Hab.out.2.2]
                    exact .inr ⟨of_decide_eq_false Hlb.out, hkx.symm, hky.symm⟩)
                  clear KT TA1 TB1 Bk lk hb5 hkx hky HKf HBk HLs
                  obtain ⟨⟨z0, z1⟩, -, -⟩ := id TA
                  obtain ⟨⟨z2, z3⟩, -, -⟩ := id TB
                  obtain ⟨n1, hn1⟩ : ∃ n, (rnR S wd ht kx ky 1).length = n := ⟨_, rfl⟩
                  have hn8 : (0 : Int) ≤ (n1 : Nat) ∧ ((n1 : Nat) : Int) ≤ 8 := by have := (rnR_ok S wd ht kx ky 1).2; omega
                  have hn0 : ¬ ((n1 : Nat) : Int) = 0 := by
                    have h0 := cross_down HdIJ.out.1 HdIJ.out.2 HSt.out Hst2.out Htz.out.1 Htz.out.2 (by rw [Hab.out.1.1, Hab.out.2.1]) (by rw [Hab.out.1.2, Hab.out.2.2]; exact e2) Hk0.out
                    have h1 : n1 ≠ 0 := fun q => h0 (List.length_eq_zero_iff.1 (hn1.trans q))
                    omega
                  have hnN : ¬ n1 = 0 := by omega
                  have Hn1 := hide hn1
                  have HB8 : Hid (Below Zg.heap.size Zg w5) := hide (bt HbZ.out B8)
                  have HK16 : Hid (∀ wx, Below w5.heap.size w5 wx → (fun wx : World => (wx.cell? ⟨w.heap.size + 1, 0, none⟩ = some (.int .i64 c) ∧ wx.cell? ⟨w.heap.size + 1, 1, none⟩ = some (.int .i64 s)) ∧ wx.cell? ⟨kb, 0, none⟩ = some (.int .i64 kx) ∧ wx.cell? ⟨kb, 1, none⟩ = some (.int .i64 ky)) wx) := hide fun wx q => ⟨(HK.out wx (bt HB8.out q)).1, (TK.kept q).1⟩
                  have HS := HK16.out _ (Below.drew (Below.refl w5.heap.size w5))
                  clear hn1 TA TB TK B8
                  go_wp2_with fail
                  clear z0 z1 z2 z3
                  refine wp_only ?_
                  refine wp_region_z (fun wx : World => (wx.cell? ⟨w.heap.size + 1, 0, none⟩ = some (.int .i64 c) ∧ wx.cell? ⟨w.heap.size + 1, 1, none⟩ = some (.int .i64 s)) ∧ wx.cell? ⟨kb, 0, none⟩ = some (.int .i64 kx) ∧ wx.cell? ⟨kb, 1, none⟩ = some (.int .i64 ky)) [] (by kernel_rfl) ?_
                  refine anyZ_take 0 30 (v := ptr p) rfl (by kernel_rfl) (fun _ _ _ h => h.elim) (Or.inl ⟨by rfl, fun wx hx => by obtain ⟨⟨p0, p1⟩, p2, p3⟩ := hx; clear HS; go_simp⟩) HS ?_
                  try simp only [Act.put, List.getElem_toArray, List.getElem_cons_zero, List.getElem_cons_succ, List.setIfInBounds_toArray, List.set_cons_zero, List.set_cons_succ]
                  refine anyZ_take 1 30 (v := shv c s) rfl (by kernel_rfl) (fun _ _ _ h => h.elim) (Or.inl ⟨by rfl, fun wx hx => by obtain ⟨⟨p0, p1⟩, p2, p3⟩ := hx; clear HS; go_simp⟩) HS ?_
                  try simp only [Act.put, List.getElem_toArray, List.getElem_cons_zero, List.getElem_cons_succ, List.setIfInBounds_toArray, List.set_cons_zero, List.set_cons_succ]
                  refine anyZ_take 2 30 (v := cel kx ky) rfl (by kernel_rfl) (fun _ _ _ h => h.elim) (Or.inl ⟨by rfl, fun wx hx => by obtain ⟨⟨p0, p1⟩, p2, p3⟩ := hx; clear HS; go_simp⟩) HS ?_
                  try simp only [Act.put, List.getElem_toArray, List.getElem_cons_zero, List.getElem_cons_succ, List.setIfInBounds_toArray, List.set_cons_zero, List.set_cons_succ]
                  refine anyZ_take 3 30 (v := .int .i64 1) rfl (by kernel_rfl) (fun _ _ _ h => h.elim) (Or.inl ⟨by rfl, fun wx hx => by obtain ⟨⟨p0, p1⟩, p2, p3⟩ := hx; clear HS; go_simp⟩) HS ?_
                  try simp only [Act.put, List.getElem_toArray, List.getElem_cons_zero, List.getElem_cons_succ, List.setIfInBounds_toArray, List.set_cons_zero, List.set_cons_succ]
                  refine anyZ_ready (rs := [4]) (by kernel_rfl) (by simp) ?_
                  refine readyZ.call rfl rfl (run_call12 (by rfl) (by rfl) (by simp only [List.map_toArray, List.map_cons, List.map_nil]; rfl)) (HP12.out _ (Below.drew HB8.out) kx ky 1) ?_ readyZ.nil
                  rintro e U1 ⟨a1, c1, rfl, hu1'⟩
                  rw [Hn1.out]
                  have hu1 : Below w5.heap.size w5 U1 := Below.trans (Below.drew (Below.refl w5.heap.size w5)) hu1'
                  have HS1 := HK16.out _ hu1
                  refine ⟨_, rfl, fun _ => HS1, ?_⟩
                  try simp only [Act.put, List.getElem_toArray, List.getElem_cons_zero, List.getElem_cons_succ, List.setIfInBounds_toArray, List.set_cons_zero, List.set_cons_succ]
                  refine anyZ_take 5 30 (v := .int .i64 (n1 : Nat)) rfl (by kernel_rfl) (fun _ _ _ h => h.elim) (Or.inl ⟨by rfl, fun wx hx => by obtain ⟨⟨p0, p1⟩, p2, p3⟩ := hx; clear HS1; go_simp⟩) HS1 ?_
                  try simp only [Act.put, List.getElem_toArray, List.getElem_cons_zero, List.getElem_cons_succ, List.setIfInBounds_toArray, List.set_cons_zero, List.set_cons_succ]
                  refine anyZ_take 6 30 (v := .bool false) rfl (by kernel_rfl) (fun _ _ _ h => h.elim) (Or.inl ⟨by rfl, fun wx hx => by obtain ⟨⟨p0, p1⟩, p2, p3⟩ := hx; clear HS1; go_simp⟩) HS1 ?_
                  try simp only [Act.put, List.getElem_toArray, List.getElem_cons_zero, List.getElem_cons_succ, List.setIfInBounds_toArray, List.set_cons_zero, List.set_cons_succ]
                  refine anyZ_take 7 30 (v := .bool false) rfl (by kernel_rfl) (fun _ _ _ h => h.elim) (Or.inl ⟨by rfl, fun wx hx => by obtain ⟨⟨p0, p1⟩, p2, p3⟩ := hx; clear HS1; go_simp⟩) HS1 ?_
                  try simp only [Act.put, List.getElem_toArray, List.getElem_cons_zero, List.getElem_cons_succ, List.setIfInBounds_toArray, List.set_cons_zero, List.set_cons_succ]
                  refine anyZ_take 8 30 (v := ptr p) rfl (by kernel_rfl) (fun _ _ _ h => h.elim) (Or.inl ⟨by rfl, fun wx hx => by obtain ⟨⟨p0, p1⟩, p2, p3⟩ := hx; clear HS1; go_simp⟩) HS1 ?_
                  try simp only [Act.put, List.getElem_toArray, List.getElem_cons_zero, List.getElem_cons_succ, List.setIfInBounds_toArray, List.set_cons_zero, List.set_cons_succ]
                  refine anyZ_take 9 30 (v := shv c s) rfl (by kernel_rfl) (fun _ _ _ h => h.elim) (Or.inl ⟨by rfl, fun wx hx => by obtain ⟨⟨p0, p1⟩, p2, p3⟩ := hx; clear HS1; go_simp⟩) HS1 ?_
                  try simp only [Act.put, List.getElem_toArray, List.getElem_cons_zero, List.getElem_cons_succ, List.setIfInBounds_toArray, List.set_cons_zero, List.set_cons_succ]
                  refine anyZ_take 10 30 (v := cel kx ky) rfl (by kernel_rfl) (fun _ _ _ h => h.elim) (Or.inl ⟨by rfl, fun wx hx => by obtain ⟨⟨p0, p1⟩, p2, p3⟩ := hx; clear HS1; go_simp⟩) HS1 ?_
                  try simp only [Act.put, List.getElem_toArray, List.getElem_cons_zero, List.getElem_cons_succ, List.setIfInBounds_toArray, List.set_cons_zero, List.set_cons_succ]
                  refine anyZ_take 11 30 (v := .int .i64 1) rfl (by kernel_rfl) (fun _ _ _ h => h.elim) (Or.inl ⟨by rfl, fun wx hx => by obtain ⟨⟨p0, p1⟩, p2, p3⟩ := hx; clear HS1; go_simp⟩) HS1 ?_
                  try simp only [Act.put, List.getElem_toArray, List.getElem_cons_zero, List.getElem_cons_succ, List.setIfInBounds_toArray, List.set_cons_zero, List.set_cons_succ]
                  refine anyZ_take 14 30 (v := ptr p) rfl (by kernel_rfl) (fun _ _ _ h => h.elim) (Or.inl ⟨by rfl, fun wx hx => by obtain ⟨⟨p0, p1⟩, p2, p3⟩ := hx; clear HS1; go_simp⟩) HS1 ?_
                  try simp only [Act.put, List.getElem_toArray, List.getElem_cons_zero, List.getElem_cons_succ, List.setIfInBounds_toArray, List.set_cons_zero, List.set_cons_succ]
                  refine anyZ_take 15 30 (v := shv c s) rfl (by kernel_rfl) (fun _ _ _ h => h.elim) (Or.inl ⟨by rfl, fun wx hx => by obtain ⟨⟨p0, p1⟩, p2, p3⟩ := hx; clear HS1; go_simp⟩) HS1 ?_
                  try simp only [Act.put, List.getElem_toArray, List.getElem_cons_zero, List.getElem_cons_succ, List.setIfInBounds_toArray, List.set_cons_zero, List.set_cons_succ]
                  refine anyZ_take 16 30 (v := cel kx ky) rfl (by kernel_rfl) (fun _ _ _ h => h.elim) (Or.inl ⟨by rfl, fun wx hx => by obtain ⟨⟨p0, p1⟩, p2, p3⟩ := hx; clear HS1; go_simp⟩) HS1 ?_
                  try simp only [Act.put, List.getElem_toArray, List.getElem_cons_zero, List.getElem_cons_succ, List.setIfInBounds_toArray, List.set_cons_zero, List.set_cons_succ]
                  refine anyZ_take 17 30 (v := .int .i64 1) rfl (by kernel_rfl) (fun _ _ _ h => h.elim) (Or.inl ⟨by rfl, fun wx hx => by obtain ⟨⟨p0, p1⟩, p2, p3⟩ := hx; clear HS1; go_simp⟩) HS1 ?_
                  try simp only [Act.put, List.getElem_toArray, List.getElem_cons_zero, List.getElem_cons_succ, List.setIfInBounds_toArray, List.set_cons_zero, List.set_cons_succ]
                  refine anyZ_ready (rs := [12]) (by kernel_rfl) (by simp) ?_
                  refine readyZ.callG rfl (by rfl) (run_call9 (by rfl) (by rfl) (by simp only [List.map_toArray, List.map_cons, List.map_nil]; rfl)) (HP9.out _ (bt HB8.out hu1) kx ky 1) ?_ readyZ.nil
                  rintro e U2 ⟨a2, c2, rfl, hu2⟩
                  rw [Hn1.out]
                  have HS2 := HK16.out _ (bt hu1 hu2)
                  refine ⟨_, rfl, fun _ => HS2, ?_⟩
                  try simp only [Act.put, List.getElem_toArray, List.getElem_cons_zero, List.getElem_cons_succ, List.setIfInBounds_toArray, List.set_cons_zero, List.set_cons_succ]
                  refine anyZ_take 13 30 (v := .int .i64 (n1 : Nat)) rfl (by kernel_rfl) (fun _ _ _ h => h.elim) (Or.inl ⟨by rfl, fun wx hx => by obtain ⟨⟨p0, p1⟩, p2, p3⟩ := hx; clear HS2; go_simp⟩) HS2 ?_
                  try simp only [Act.put, List.getElem_toArray, List.getElem_cons_zero, List.getElem_cons_succ, List.setIfInBounds_toArray, List.set_cons_zero, List.set_cons_succ]
                  refine anyZ_ready (rs := [18]) (by kernel_rfl) (by simp) ?_
                  refine readyZ.callG rfl (by rfl) (run_call12 (by rfl) (by rfl) (by simp only [List.map_toArray, List.map_cons, List.map_nil]; rfl)) (HP12.out _ (bt HB8.out (bt hu1 hu2)) kx ky 1) ?_ readyZ.nil
                  rintro e U3 ⟨a3, c3, rfl, hu3⟩
                  rw [Hn1.out]
                  have hu := bt hu1 (bt hu2 hu3)
                  have HS3 := HK16.out _ hu
                  refine ⟨_, rfl, fun _ => HS3, ?_⟩
                  try simp only [Act.put, List.getElem_toArray, List.getElem_cons_zero, List.getElem_cons_succ, List.setIfInBounds_toArray, List.set_cons_zero, List.set_cons_succ]
                  refine anyZ_take 19 30 (v := .int .i64 (n1 : Nat)) rfl (by kernel_rfl) (fun _ _ _ h => h.elim) (Or.inl ⟨by rfl, fun wx hx => by obtain ⟨⟨p0, p1⟩, p2, p3⟩ := hx; clear HS3; go_simp⟩) HS3 ?_
                  try simp only [Act.put, List.getElem_toArray, List.getElem_cons_zero, List.getElem_cons_succ, List.setIfInBounds_toArray, List.set_cons_zero, List.set_cons_succ]
                  refine anyZ_take 20 30 (v := .bool false) rfl (by kernel_rfl) (fun _ _ _ h => h.elim) (Or.inl ⟨by rfl, fun wx hx => by obtain ⟨⟨p0, p1⟩, p2, p3⟩ := hx; clear HS3; go_simp⟩) HS3 ?_
                  try simp only [Act.put, List.getElem_toArray, List.getElem_cons_zero, List.getElem_cons_succ, List.setIfInBounds_toArray, List.set_cons_zero, List.set_cons_succ]
                  refine anyZ_take 21 30 (v := .bool false) rfl (by kernel_rfl) (fun _ _ _ h => h.elim) (Or.inl ⟨by rfl, fun wx hx => by obtain ⟨⟨p0, p1⟩, p2, p3⟩ := hx; clear HS3; go_simp⟩) HS3 ?_
                  try simp only [Act.put, List.getElem_toArray, List.getElem_cons_zero, List.getElem_cons_succ, List.setIfInBounds_toArray, List.set_cons_zero, List.set_cons_succ]
                  refine anyZ_done (by kernel_rfl) ?_ _
                  dsimp only [Only, Exit.then]
                  have HB9 := hide (bt HB8.out hu)
                  clear HS HS1 HS2 HS3 hu1 hu1' hu2 hu3 hu
                  have HE : Hid (∃ i' : Nat, (Value.int .i64 (((i : Nat) : Int) + 1)) = .int .i64 (i' : Nat) ∧ i' ≤ 8 ∧ Below Zg.heap.size Zg U3) := hide ⟨i + 1, by push_cast; rfl, by omega, HB9.out⟩
                  go_wp2_with fail
                  go_roundw
                  case rel => exact HE.out
                  case measure => simp [intOf]; omega
                · have TA2 := TA1.kept hb5
                  have TB2 := TB1.kept hb5
                  have TK2 := KT.kept hb5
                  obtain ⟨kx, hkx⟩ : ∃ v, ax = v := ⟨_, rfl⟩
                  obtain ⟨ky, hky⟩ : ∃ v, by' = v := ⟨_, rfl⟩
                  obtain ⟨Z8, hZ8⟩ : ∃ v, (w5.setCell ⟨kb, 0, none⟩ (.int .i64 ax)).setCell ⟨kb, 1, none⟩ (.int .i64 by') = v := ⟨_, rfl⟩
                  have TA : Two Z8 p4 ax ay := by rw [← hZ8]; exact TA2.other nk4
                  have TB : Two Z8 q5 ax by' := by rw [← hZ8]; exact TB2.other nk5
                  have TK : Two Z8 kb kx ky := by rw [← hZ8, ← hkx, ← hky]; exact TK2.set
                  have B8 : Below Zt.heap.size Zt Z8 := by rw [← hZ8]; exact ((bt Bk hb5).setCell (p := ⟨kb, 0, none⟩) lk _).setCell (p := ⟨kb, 1, none⟩) lk _
                  have Hk0 : Hid ((ty / 8 < y / 8 ∨ (ty / 8 = y / 8 ∧ tx / 8 < x / 8)) ∧ kx = tx / 8 ∧ ky = ty / 8 ∨ ¬ (ty / 8 < y / 8 ∨ (ty / 8 = y / 8 ∧ tx / 8 < x / 8)) ∧ kx = x / 8 ∧ ky = y / 8) := hide (by
                    rw [Hab.out.1.1, Hab.out.1.2, Hab.out.2.1, Hab.out.2.2]
                    exact .inl ⟨of_decide_eq_true Hlb.out, hkx.symm, hky.symm⟩)
                  obtain ⟨⟨k0, k1⟩, ⟨k2, k3⟩, -⟩ := id TK2
                  obtain ⟨⟨u0, u1⟩, -, -⟩ := id TB2
                  obtain ⟨⟨u2, u3⟩, -, -⟩ := id TA2
                  have HZ8 := hide hZ8
                  clear KT TA1 TB1 TA2 TB2 TK2 Bk lk hb5 hkx hky HKf HBk HLs hZ8
                  obtain ⟨⟨z0, z1⟩, -, -⟩ := id TA
                  obtain ⟨⟨z2, z3⟩, -, -⟩ := id TB
                  obtain ⟨n1, hn1⟩ : ∃ n, (rnR S wd ht kx ky 1).length = n := ⟨_, rfl⟩
                  have hn8 : (0 : Int) ≤ (n1 : Nat) ∧ ((n1 : Nat) : Int) ≤ 8 := by have := (rnR_ok S wd ht kx ky 1).2; omega
                  have hn0 : ¬ ((n1 : Nat) : Int) = 0 := by
                    have h0 := cross_down HdIJ.out.1 HdIJ.out.2 HSt.out Hst2.out Htz.out.1 Htz.out.2 (by rw [Hab.out.1.1, Hab.out.2.1]) (by rw [Hab.out.1.2, Hab.out.2.2]; exact e2) Hk0.out
                    have h1 : n1 ≠ 0 := fun q => h0 (List.length_eq_zero_iff.1 (hn1.trans q))
                    omega
                  have hnN : ¬ n1 = 0 := by omega
                  have Hn1 := hide hn1
                  have HB8 : Hid (Below Zg.heap.size Zg Z8) := hide (bt HbZ.out B8)
                  have HK16 : Hid (∀ wx, Below Z8.heap.size Z8 wx → (fun wx : World => (wx.cell? ⟨w.heap.size + 1, 0, none⟩ = some (.int .i64 c) ∧ wx.cell? ⟨w.heap.size + 1, 1, none⟩ = some (.int .i64 s)) ∧ wx.cell? ⟨kb, 0, none⟩ = some (.int .i64 kx) ∧ wx.cell? ⟨kb, 1, none⟩ = some (.int .i64 ky)) wx) := hide fun wx q => ⟨(HK.out wx (bt HB8.out q)).1, (TK.kept q).1⟩
                  have HS := HK16.out _ (Below.drew (Below.refl Z8.heap.size Z8))
                  clear hn1 TA TB TK B8
                  go_wp2_with (rw [HZ8.out])
                  clear z0 z1 z2 z3 k0 k1 k2 k3 u0 u1 u2 u3
                  refine wp_only ?_
                  refine wp_region_z (fun wx : World => (wx.cell? ⟨w.heap.size + 1, 0, none⟩ = some (.int .i64 c) ∧ wx.cell? ⟨w.heap.size + 1, 1, none⟩ = some (.int .i64 s)) ∧ wx.cell? ⟨kb, 0, none⟩ = some (.int .i64 kx) ∧ wx.cell? ⟨kb, 1, none⟩ = some (.int .i64 ky)) [] (by kernel_rfl) ?_
                  refine anyZ_take 0 30 (v := ptr p) rfl (by kernel_rfl) (fun _ _ _ h => h.elim) (Or.inl ⟨by rfl, fun wx hx => by obtain ⟨⟨p0, p1⟩, p2, p3⟩ := hx; clear HS; go_simp⟩) HS ?_
                  try simp only [Act.put, List.getElem_toArray, List.getElem_cons_zero, List.getElem_cons_succ, List.setIfInBounds_toArray, List.set_cons_zero, List.set_cons_succ]
                  refine anyZ_take 1 30 (v := shv c s) rfl (by kernel_rfl) (fun _ _ _ h => h.elim) (Or.inl ⟨by rfl, fun wx hx => by obtain ⟨⟨p0, p1⟩, p2, p3⟩ := hx; clear HS; go_simp⟩) HS ?_
                  try simp only [Act.put, List.getElem_toArray, List.getElem_cons_zero, List.getElem_cons_succ, List.setIfInBounds_toArray, List.set_cons_zero, List.set_cons_succ]
                  refine anyZ_take 2 30 (v := cel kx ky) rfl (by kernel_rfl) (fun _ _ _ h => h.elim) (Or.inl ⟨by rfl, fun wx hx => by obtain ⟨⟨p0, p1⟩, p2, p3⟩ := hx; clear HS; go_simp⟩) HS ?_
                  try simp only [Act.put, List.getElem_toArray, List.getElem_cons_zero, List.getElem_cons_succ, List.setIfInBounds_toArray, List.set_cons_zero, List.set_cons_succ]
                  refine anyZ_take 3 30 (v := .int .i64 1) rfl (by kernel_rfl) (fun _ _ _ h => h.elim) (Or.inl ⟨by rfl, fun wx hx => by obtain ⟨⟨p0, p1⟩, p2, p3⟩ := hx; clear HS; go_simp⟩) HS ?_
                  try simp only [Act.put, List.getElem_toArray, List.getElem_cons_zero, List.getElem_cons_succ, List.setIfInBounds_toArray, List.set_cons_zero, List.set_cons_succ]
                  refine anyZ_ready (rs := [4]) (by kernel_rfl) (by simp) ?_
                  refine readyZ.call rfl rfl (run_call12 (by rfl) (by rfl) (by simp only [List.map_toArray, List.map_cons, List.map_nil]; rfl)) (HP12.out _ (Below.drew HB8.out) kx ky 1) ?_ readyZ.nil
                  rintro e U1 ⟨a1, c1, rfl, hu1'⟩
                  rw [Hn1.out]
                  have hu1 : Below Z8.heap.size Z8 U1 := Below.trans (Below.drew (Below.refl Z8.heap.size Z8)) hu1'
                  have HS1 := HK16.out _ hu1
                  refine ⟨_, rfl, fun _ => HS1, ?_⟩
                  try simp only [Act.put, List.getElem_toArray, List.getElem_cons_zero, List.getElem_cons_succ, List.setIfInBounds_toArray, List.set_cons_zero, List.set_cons_succ]
                  refine anyZ_take 5 30 (v := .int .i64 (n1 : Nat)) rfl (by kernel_rfl) (fun _ _ _ h => h.elim) (Or.inl ⟨by rfl, fun wx hx => by obtain ⟨⟨p0, p1⟩, p2, p3⟩ := hx; clear HS1; go_simp⟩) HS1 ?_
                  try simp only [Act.put, List.getElem_toArray, List.getElem_cons_zero, List.getElem_cons_succ, List.setIfInBounds_toArray, List.set_cons_zero, List.set_cons_succ]
                  refine anyZ_take 6 30 (v := .bool false) rfl (by kernel_rfl) (fun _ _ _ h => h.elim) (Or.inl ⟨by rfl, fun wx hx => by obtain ⟨⟨p0, p1⟩, p2, p3⟩ := hx; clear HS1; go_simp⟩) HS1 ?_
                  try simp only [Act.put, List.getElem_toArray, List.getElem_cons_zero, List.getElem_cons_succ, List.setIfInBounds_toArray, List.set_cons_zero, List.set_cons_succ]
                  refine anyZ_take 7 30 (v := .bool false) rfl (by kernel_rfl) (fun _ _ _ h => h.elim) (Or.inl ⟨by rfl, fun wx hx => by obtain ⟨⟨p0, p1⟩, p2, p3⟩ := hx; clear HS1; go_simp⟩) HS1 ?_
                  try simp only [Act.put, List.getElem_toArray, List.getElem_cons_zero, List.getElem_cons_succ, List.setIfInBounds_toArray, List.set_cons_zero, List.set_cons_succ]
                  refine anyZ_take 8 30 (v := ptr p) rfl (by kernel_rfl) (fun _ _ _ h => h.elim) (Or.inl ⟨by rfl, fun wx hx => by obtain ⟨⟨p0, p1⟩, p2, p3⟩ := hx; clear HS1; go_simp⟩) HS1 ?_
                  try simp only [Act.put, List.getElem_toArray, List.getElem_cons_zero, List.getElem_cons_succ, List.setIfInBounds_toArray, List.set_cons_zero, List.set_cons_succ]
                  refine anyZ_take 9 30 (v := shv c s) rfl (by kernel_rfl) (fun _ _ _ h => h.elim) (Or.inl ⟨by rfl, fun wx hx => by obtain ⟨⟨p0, p1⟩, p2, p3⟩ := hx; clear HS1; go_simp⟩) HS1 ?_
                  try simp only [Act.put, List.getElem_toArray, List.getElem_cons_zero, List.getElem_cons_succ, List.setIfInBounds_toArray, List.set_cons_zero, List.set_cons_succ]
                  refine anyZ_take 10 30 (v := cel kx ky) rfl (by kernel_rfl) (fun _ _ _ h => h.elim) (Or.inl ⟨by rfl, fun wx hx => by obtain ⟨⟨p0, p1⟩, p2, p3⟩ := hx; clear HS1; go_simp⟩) HS1 ?_
                  try simp only [Act.put, List.getElem_toArray, List.getElem_cons_zero, List.getElem_cons_succ, List.setIfInBounds_toArray, List.set_cons_zero, List.set_cons_succ]
                  refine anyZ_take 11 30 (v := .int .i64 1) rfl (by kernel_rfl) (fun _ _ _ h => h.elim) (Or.inl ⟨by rfl, fun wx hx => by obtain ⟨⟨p0, p1⟩, p2, p3⟩ := hx; clear HS1; go_simp⟩) HS1 ?_
                  try simp only [Act.put, List.getElem_toArray, List.getElem_cons_zero, List.getElem_cons_succ, List.setIfInBounds_toArray, List.set_cons_zero, List.set_cons_succ]
                  refine anyZ_take 14 30 (v := ptr p) rfl (by kernel_rfl) (fun _ _ _ h => h.elim) (Or.inl ⟨by rfl, fun wx hx => by obtain ⟨⟨p0, p1⟩, p2, p3⟩ := hx; clear HS1; go_simp⟩) HS1 ?_
                  try simp only [Act.put, List.getElem_toArray, List.getElem_cons_zero, List.getElem_cons_succ, List.setIfInBounds_toArray, List.set_cons_zero, List.set_cons_succ]
                  refine anyZ_take 15 30 (v := shv c s) rfl (by kernel_rfl) (fun _ _ _ h => h.elim) (Or.inl ⟨by rfl, fun wx hx => by obtain ⟨⟨p0, p1⟩, p2, p3⟩ := hx; clear HS1; go_simp⟩) HS1 ?_
                  try simp only [Act.put, List.getElem_toArray, List.getElem_cons_zero, List.getElem_cons_succ, List.setIfInBounds_toArray, List.set_cons_zero, List.set_cons_succ]
                  refine anyZ_take 16 30 (v := cel kx ky) rfl (by kernel_rfl) (fun _ _ _ h => h.elim) (Or.inl ⟨by rfl, fun wx hx => by obtain ⟨⟨p0, p1⟩, p2, p3⟩ := hx; clear HS1; go_simp⟩) HS1 ?_
                  try simp only [Act.put, List.getElem_toArray, List.getElem_cons_zero, List.getElem_cons_succ, List.setIfInBounds_toArray, List.set_cons_zero, List.set_cons_succ]
                  refine anyZ_take 17 30 (v := .int .i64 1) rfl (by kernel_rfl) (fun _ _ _ h => h.elim) (Or.inl ⟨by rfl, fun wx hx => by obtain ⟨⟨p0, p1⟩, p2, p3⟩ := hx; clear HS1; go_simp⟩) HS1 ?_
                  try simp only [Act.put, List.getElem_toArray, List.getElem_cons_zero, List.getElem_cons_succ, List.setIfInBounds_toArray, List.set_cons_zero, List.set_cons_succ]
                  refine anyZ_ready (rs := [12]) (by kernel_rfl) (by simp) ?_
                  refine readyZ.callG rfl (by rfl) (run_call9 (by rfl) (by rfl) (by simp only [List.map_toArray, List.map_cons, List.map_nil]; rfl)) (HP9.out _ (bt HB8.out hu1) kx ky 1) ?_ readyZ.nil
                  rintro e U2 ⟨a2, c2, rfl, hu2⟩
                  rw [Hn1.out]
                  have HS2 := HK16.out _ (bt hu1 hu2)
                  refine ⟨_, rfl, fun _ => HS2, ?_⟩
                  try simp only [Act.put, List.getElem_toArray, List.getElem_cons_zero, List.getElem_cons_succ, List.setIfInBounds_toArray, List.set_cons_zero, List.set_cons_succ]
                  refine anyZ_take 13 30 (v := .int .i64 (n1 : Nat)) rfl (by kernel_rfl) (fun _ _ _ h => h.elim) (Or.inl ⟨by rfl, fun wx hx => by obtain ⟨⟨p0, p1⟩, p2, p3⟩ := hx; clear HS2; go_simp⟩) HS2 ?_
                  try simp only [Act.put, List.getElem_toArray, List.getElem_cons_zero, List.getElem_cons_succ, List.setIfInBounds_toArray, List.set_cons_zero, List.set_cons_succ]
                  refine anyZ_ready (rs := [18]) (by kernel_rfl) (by simp) ?_
                  refine readyZ.callG rfl (by rfl) (run_call12 (by rfl) (by rfl) (by simp only [List.map_toArray, List.map_cons, List.map_nil]; rfl)) (HP12.out _ (bt HB8.out (bt hu1 hu2)) kx ky 1) ?_ readyZ.nil
                  rintro e U3 ⟨a3, c3, rfl, hu3⟩
                  rw [Hn1.out]
                  have hu := bt hu1 (bt hu2 hu3)
                  have HS3 := HK16.out _ hu
                  refine ⟨_, rfl, fun _ => HS3, ?_⟩
                  try simp only [Act.put, List.getElem_toArray, List.getElem_cons_zero, List.getElem_cons_succ, List.setIfInBounds_toArray, List.set_cons_zero, List.set_cons_succ]
                  refine anyZ_take 19 30 (v := .int .i64 (n1 : Nat)) rfl (by kernel_rfl) (fun _ _ _ h => h.elim) (Or.inl ⟨by rfl, fun wx hx => by obtain ⟨⟨p0, p1⟩, p2, p3⟩ := hx; clear HS3; go_simp⟩) HS3 ?_
                  try simp only [Act.put, List.getElem_toArray, List.getElem_cons_zero, List.getElem_cons_succ, List.setIfInBounds_toArray, List.set_cons_zero, List.set_cons_succ]
                  refine anyZ_take 20 30 (v := .bool false) rfl (by kernel_rfl) (fun _ _ _ h => h.elim) (Or.inl ⟨by rfl, fun wx hx => by obtain ⟨⟨p0, p1⟩, p2, p3⟩ := hx; clear HS3; go_simp⟩) HS3 ?_
                  try simp only [Act.put, List.getElem_toArray, List.getElem_cons_zero, List.getElem_cons_succ, List.setIfInBounds_toArray, List.set_cons_zero, List.set_cons_succ]
                  refine anyZ_take 21 30 (v := .bool false) rfl (by kernel_rfl) (fun _ _ _ h => h.elim) (Or.inl ⟨by rfl, fun wx hx => by obtain ⟨⟨p0, p1⟩, p2, p3⟩ := hx; clear HS3; go_simp⟩) HS3 ?_
                  try simp only [Act.put, List.getElem_toArray, List.getElem_cons_zero, List.getElem_cons_succ, List.setIfInBounds_toArray, List.set_cons_zero, List.set_cons_succ]
                  refine anyZ_done (by kernel_rfl) ?_ _
                  dsimp only [Only, Exit.then]
                  have HB9 := hide (bt HB8.out hu)
                  clear HS HS1 HS2 HS3 hu1 hu1' hu2 hu3 hu
                  have HE : Hid (∃ i' : Nat, (Value.int .i64 (((i : Nat) : Int) + 1)) = .int .i64 (i' : Nat) ∧ i' ≤ 8 ∧ Below Zg.heap.size Zg U3) := hide ⟨i + 1, by push_cast; rfl, by omega, HB9.out⟩
                  go_wp2_with fail
                  go_roundw
                  case rel => exact HE.out
                  case measure => simp [intOf]; omega
            · by_cases e2 : ay = by'
              · subst e2
                have hce : ∀ wx, (binOp .eql 35 (cel ax ay) (cel bx ay)).run Tryz.prog wx = .ok (.bool false) wx := fun wx => (eqC _ _ _ _ wx).trans (by rw [decide_eq_false e1]; rfl)
                obtain ⟨kb, hkb⟩ : ∃ v, Z7.heap.size = v := ⟨_, rfl⟩
                obtain ⟨Zk, hZk⟩ : ∃ v, Z7.alloc (.cells #[.int .i64 ax, .int .i64 ay] 35) = v := ⟨_, rfl⟩
                have Bk : Below Zt.heap.size Zt Zk := by rw [← hZk]; exact bt B7 (box1 _ _)
                have KT : Two Zk kb ax ay := by rw [← hZk]; exact Two.newAt hkb.symm
                have TA1 : Two Zk p4 ax ay := by rw [← hZk]; exact T4.alloc
                have TB1 : Two Zk q5 bx ay := by rw [← hZk]; exact T5.alloc
                have lk : Zt.heap.size ≤ kb := by rw [← hkb]; exact B7.size
                have nk4 : ¬ p4 = kb := by have := T4.2.2; omega
                have nk5 : ¬ q5 = kb := by have := T5.2.2; omega
                obtain ⟨⟨y0, y1⟩, -, -⟩ := id T4
                obtain ⟨⟨y2, y3⟩, -, -⟩ := id T5
                obtain ⟨⟨v0, v1⟩, -, -⟩ := id TA1
                obtain ⟨⟨v2, v3⟩, -, -⟩ := id TB1
                obtain ⟨lb, hlb⟩ : ∃ b, decide (ay < ay ∨ (ay = ay ∧ bx < ax)) = b := ⟨_, rfl⟩
                have HLs : Hid (∀ wx, Calls Tryz.prog 18 #[cel bx ay, cel ax ay] wx fun e w' => e = .returned (.bool lb) ∧ Below wx.heap.size wx w') := hide fun wx => by rw [← hlb]; exact less_any bx ay ax ay wx
                have HZk := hide hZk
                have Hlb : Hid (LssB lb bx ay ax ay) := hide hlb
                have HKf := hide (And.intro KT (And.intro TA1 TB1))
                have HBk := hide (And.intro Bk lk)
                clear hZk hlb KT TA1 TB1 Bk lk T4 T5 B7
                go_wp2_with (rw [HZk.out])
                try rw [hkb]
                clear y0 y1 y2 y3
                refine (HLs.out _).mono ?_
                rintro e w5 ⟨rfl, hb5⟩
                clear v0 v1 v2 v3
                obtain ⟨KT, TA1, TB1⟩ := HKf.out
                obtain ⟨Bk, lk⟩ := HBk.out
                cases lb
                · have TA := TA1.kept hb5
                  have TB := TB1.kept hb5
                  obtain ⟨kx, hkx⟩ : ∃ v, ax = v := ⟨_, rfl⟩
                  obtain ⟨ky, hky⟩ : ∃ v, ay = v := ⟨_, rfl⟩
                  have TK : Two w5 kb kx ky := by rw [← hkx, ← hky]; exact KT.kept hb5
                  have B8 : Below Zt.heap.size Zt w5 := bt Bk hb5
                  have Hk0 : Hid ((ty / 8 < y / 8 ∨ (ty / 8 = y / 8 ∧ tx / 8 < x / 8)) ∧ kx = tx / 8 ∧ ky = ty / 8 ∨ ¬ (ty / 8 < y / 8 ∨ (ty / 8 = y / 8 ∧ tx / 8 < x / 8)) ∧ kx = x / 8 ∧ ky = y / 8) := hide (by
                    rw [Hab.out.1.1, Hab.out.1.2, Hab.out.2.1, Hab.out.2.2]
                    exact .inr ⟨of_decide_eq_false Hlb.out, hkx.symm, hky.symm⟩)
                  clear KT TA1 TB1 Bk lk hb5 hkx hky HKf HBk HLs
                  obtain ⟨⟨z0, z1⟩, -, -⟩ := id TA
                  obtain ⟨⟨z2, z3⟩, -, -⟩ := id TB
                  obtain ⟨n1, hn1⟩ : ∃ n, (rnR S wd ht kx ky 0).length = n := ⟨_, rfl⟩
                  have hn8 : (0 : Int) ≤ (n1 : Nat) ∧ ((n1 : Nat) : Int) ≤ 8 := by have := (rnR_ok S wd ht kx ky 0).2; omega
                  have hn0 : ¬ ((n1 : Nat) : Int) = 0 := by
                    have h0 := cross_right HdIJ.out.1 HdIJ.out.2 HSt.out Hst2.out Htz.out.1 Htz.out.2 (by rw [Hab.out.1.1, Hab.out.2.1]; exact e1) (by rw [Hab.out.1.2, Hab.out.2.2]) Hk0.out
                    have h1 : n1 ≠ 0 := fun q => h0 (List.length_eq_zero_iff.1 (hn1.trans q))
                    omega
                  have hnN : ¬ n1 = 0 := by omega
                  have Hn1 := hide hn1
                  have HB8 : Hid (Below Zg.heap.size Zg w5) := hide (bt HbZ.out B8)
                  have HK16 : Hid (∀ wx, Below w5.heap.size w5 wx → (fun wx : World => (wx.cell? ⟨w.heap.size + 1, 0, none⟩ = some (.int .i64 c) ∧ wx.cell? ⟨w.heap.size + 1, 1, none⟩ = some (.int .i64 s)) ∧ wx.cell? ⟨kb, 0, none⟩ = some (.int .i64 kx) ∧ wx.cell? ⟨kb, 1, none⟩ = some (.int .i64 ky)) wx) := hide fun wx q => ⟨(HK.out wx (bt HB8.out q)).1, (TK.kept q).1⟩
                  have HS := HK16.out _ (Below.drew (Below.refl w5.heap.size w5))
                  clear hn1 TA TB TK B8
                  go_wp2_with fail
                  clear z0 z1 z2 z3
                  refine wp_only ?_
                  refine wp_region_z (fun wx : World => (wx.cell? ⟨w.heap.size + 1, 0, none⟩ = some (.int .i64 c) ∧ wx.cell? ⟨w.heap.size + 1, 1, none⟩ = some (.int .i64 s)) ∧ wx.cell? ⟨kb, 0, none⟩ = some (.int .i64 kx) ∧ wx.cell? ⟨kb, 1, none⟩ = some (.int .i64 ky)) [] (by kernel_rfl) ?_
                  refine anyZ_take 0 30 (v := ptr p) rfl (by kernel_rfl) (fun _ _ _ h => h.elim) (Or.inl ⟨by rfl, fun wx hx => by obtain ⟨⟨p0, p1⟩, p2, p3⟩ := hx; clear HS; go_simp⟩) HS ?_
                  try simp only [Act.put, List.getElem_toArray, List.getElem_cons_zero, List.getElem_cons_succ, List.setIfInBounds_toArray, List.set_cons_zero, List.set_cons_succ]
                  refine anyZ_take 1 30 (v := shv c s) rfl (by kernel_rfl) (fun _ _ _ h => h.elim) (Or.inl ⟨by rfl, fun wx hx => by obtain ⟨⟨p0, p1⟩, p2, p3⟩ := hx; clear HS; go_simp⟩) HS ?_
                  try simp only [Act.put, List.getElem_toArray, List.getElem_cons_zero, List.getElem_cons_succ, List.setIfInBounds_toArray, List.set_cons_zero, List.set_cons_succ]
                  refine anyZ_take 2 30 (v := cel kx ky) rfl (by kernel_rfl) (fun _ _ _ h => h.elim) (Or.inl ⟨by rfl, fun wx hx => by obtain ⟨⟨p0, p1⟩, p2, p3⟩ := hx; clear HS; go_simp⟩) HS ?_
                  try simp only [Act.put, List.getElem_toArray, List.getElem_cons_zero, List.getElem_cons_succ, List.setIfInBounds_toArray, List.set_cons_zero, List.set_cons_succ]
                  refine anyZ_take 3 30 (v := .int .i64 0) rfl (by kernel_rfl) (fun _ _ _ h => h.elim) (Or.inl ⟨by rfl, fun wx hx => by obtain ⟨⟨p0, p1⟩, p2, p3⟩ := hx; clear HS; go_simp⟩) HS ?_
                  try simp only [Act.put, List.getElem_toArray, List.getElem_cons_zero, List.getElem_cons_succ, List.setIfInBounds_toArray, List.set_cons_zero, List.set_cons_succ]
                  refine anyZ_ready (rs := [4]) (by kernel_rfl) (by simp) ?_
                  refine readyZ.call rfl rfl (run_call12 (by rfl) (by rfl) (by simp only [List.map_toArray, List.map_cons, List.map_nil]; rfl)) (HP12.out _ (Below.drew HB8.out) kx ky 0) ?_ readyZ.nil
                  rintro e U1 ⟨a1, c1, rfl, hu1'⟩
                  rw [Hn1.out]
                  have hu1 : Below w5.heap.size w5 U1 := Below.trans (Below.drew (Below.refl w5.heap.size w5)) hu1'
                  have HS1 := HK16.out _ hu1
                  refine ⟨_, rfl, fun _ => HS1, ?_⟩
                  try simp only [Act.put, List.getElem_toArray, List.getElem_cons_zero, List.getElem_cons_succ, List.setIfInBounds_toArray, List.set_cons_zero, List.set_cons_succ]
                  refine anyZ_take 5 30 (v := .int .i64 (n1 : Nat)) rfl (by kernel_rfl) (fun _ _ _ h => h.elim) (Or.inl ⟨by rfl, fun wx hx => by obtain ⟨⟨p0, p1⟩, p2, p3⟩ := hx; clear HS1; go_simp⟩) HS1 ?_
                  try simp only [Act.put, List.getElem_toArray, List.getElem_cons_zero, List.getElem_cons_succ, List.setIfInBounds_toArray, List.set_cons_zero, List.set_cons_succ]
                  refine anyZ_take 6 30 (v := .bool false) rfl (by kernel_rfl) (fun _ _ _ h => h.elim) (Or.inl ⟨by rfl, fun wx hx => by obtain ⟨⟨p0, p1⟩, p2, p3⟩ := hx; clear HS1; go_simp⟩) HS1 ?_
                  try simp only [Act.put, List.getElem_toArray, List.getElem_cons_zero, List.getElem_cons_succ, List.setIfInBounds_toArray, List.set_cons_zero, List.set_cons_succ]
                  refine anyZ_take 7 30 (v := .bool false) rfl (by kernel_rfl) (fun _ _ _ h => h.elim) (Or.inl ⟨by rfl, fun wx hx => by obtain ⟨⟨p0, p1⟩, p2, p3⟩ := hx; clear HS1; go_simp⟩) HS1 ?_
                  try simp only [Act.put, List.getElem_toArray, List.getElem_cons_zero, List.getElem_cons_succ, List.setIfInBounds_toArray, List.set_cons_zero, List.set_cons_succ]
                  refine anyZ_take 8 30 (v := ptr p) rfl (by kernel_rfl) (fun _ _ _ h => h.elim) (Or.inl ⟨by rfl, fun wx hx => by obtain ⟨⟨p0, p1⟩, p2, p3⟩ := hx; clear HS1; go_simp⟩) HS1 ?_
                  try simp only [Act.put, List.getElem_toArray, List.getElem_cons_zero, List.getElem_cons_succ, List.setIfInBounds_toArray, List.set_cons_zero, List.set_cons_succ]
                  refine anyZ_take 9 30 (v := shv c s) rfl (by kernel_rfl) (fun _ _ _ h => h.elim) (Or.inl ⟨by rfl, fun wx hx => by obtain ⟨⟨p0, p1⟩, p2, p3⟩ := hx; clear HS1; go_simp⟩) HS1 ?_
                  try simp only [Act.put, List.getElem_toArray, List.getElem_cons_zero, List.getElem_cons_succ, List.setIfInBounds_toArray, List.set_cons_zero, List.set_cons_succ]
                  refine anyZ_take 10 30 (v := cel kx ky) rfl (by kernel_rfl) (fun _ _ _ h => h.elim) (Or.inl ⟨by rfl, fun wx hx => by obtain ⟨⟨p0, p1⟩, p2, p3⟩ := hx; clear HS1; go_simp⟩) HS1 ?_
                  try simp only [Act.put, List.getElem_toArray, List.getElem_cons_zero, List.getElem_cons_succ, List.setIfInBounds_toArray, List.set_cons_zero, List.set_cons_succ]
                  refine anyZ_take 11 30 (v := .int .i64 0) rfl (by kernel_rfl) (fun _ _ _ h => h.elim) (Or.inl ⟨by rfl, fun wx hx => by obtain ⟨⟨p0, p1⟩, p2, p3⟩ := hx; clear HS1; go_simp⟩) HS1 ?_
                  try simp only [Act.put, List.getElem_toArray, List.getElem_cons_zero, List.getElem_cons_succ, List.setIfInBounds_toArray, List.set_cons_zero, List.set_cons_succ]
                  refine anyZ_take 14 30 (v := ptr p) rfl (by kernel_rfl) (fun _ _ _ h => h.elim) (Or.inl ⟨by rfl, fun wx hx => by obtain ⟨⟨p0, p1⟩, p2, p3⟩ := hx; clear HS1; go_simp⟩) HS1 ?_
                  try simp only [Act.put, List.getElem_toArray, List.getElem_cons_zero, List.getElem_cons_succ, List.setIfInBounds_toArray, List.set_cons_zero, List.set_cons_succ]
                  refine anyZ_take 15 30 (v := shv c s) rfl (by kernel_rfl) (fun _ _ _ h => h.elim) (Or.inl ⟨by rfl, fun wx hx => by obtain ⟨⟨p0, p1⟩, p2, p3⟩ := hx; clear HS1; go_simp⟩) HS1 ?_
                  try simp only [Act.put, List.getElem_toArray, List.getElem_cons_zero, List.getElem_cons_succ, List.setIfInBounds_toArray, List.set_cons_zero, List.set_cons_succ]
                  refine anyZ_take 16 30 (v := cel kx ky) rfl (by kernel_rfl) (fun _ _ _ h => h.elim) (Or.inl ⟨by rfl, fun wx hx => by obtain ⟨⟨p0, p1⟩, p2, p3⟩ := hx; clear HS1; go_simp⟩) HS1 ?_
                  try simp only [Act.put, List.getElem_toArray, List.getElem_cons_zero, List.getElem_cons_succ, List.setIfInBounds_toArray, List.set_cons_zero, List.set_cons_succ]
                  refine anyZ_take 17 30 (v := .int .i64 0) rfl (by kernel_rfl) (fun _ _ _ h => h.elim) (Or.inl ⟨by rfl, fun wx hx => by obtain ⟨⟨p0, p1⟩, p2, p3⟩ := hx; clear HS1; go_simp⟩) HS1 ?_
                  try simp only [Act.put, List.getElem_toArray, List.getElem_cons_zero, List.getElem_cons_succ, List.setIfInBounds_toArray, List.set_cons_zero, List.set_cons_succ]
                  refine anyZ_ready (rs := [12]) (by kernel_rfl) (by simp) ?_
                  refine readyZ.callG rfl (by rfl) (run_call9 (by rfl) (by rfl) (by simp only [List.map_toArray, List.map_cons, List.map_nil]; rfl)) (HP9.out _ (bt HB8.out hu1) kx ky 0) ?_ readyZ.nil
                  rintro e U2 ⟨a2, c2, rfl, hu2⟩
                  rw [Hn1.out]
                  have HS2 := HK16.out _ (bt hu1 hu2)
                  refine ⟨_, rfl, fun _ => HS2, ?_⟩
                  try simp only [Act.put, List.getElem_toArray, List.getElem_cons_zero, List.getElem_cons_succ, List.setIfInBounds_toArray, List.set_cons_zero, List.set_cons_succ]
                  refine anyZ_take 13 30 (v := .int .i64 (n1 : Nat)) rfl (by kernel_rfl) (fun _ _ _ h => h.elim) (Or.inl ⟨by rfl, fun wx hx => by obtain ⟨⟨p0, p1⟩, p2, p3⟩ := hx; clear HS2; go_simp⟩) HS2 ?_
                  try simp only [Act.put, List.getElem_toArray, List.getElem_cons_zero, List.getElem_cons_succ, List.setIfInBounds_toArray, List.set_cons_zero, List.set_cons_succ]
                  refine anyZ_ready (rs := [18]) (by kernel_rfl) (by simp) ?_
                  refine readyZ.callG rfl (by rfl) (run_call12 (by rfl) (by rfl) (by simp only [List.map_toArray, List.map_cons, List.map_nil]; rfl)) (HP12.out _ (bt HB8.out (bt hu1 hu2)) kx ky 0) ?_ readyZ.nil
                  rintro e U3 ⟨a3, c3, rfl, hu3⟩
                  rw [Hn1.out]
                  have hu := bt hu1 (bt hu2 hu3)
                  have HS3 := HK16.out _ hu
                  refine ⟨_, rfl, fun _ => HS3, ?_⟩
                  try simp only [Act.put, List.getElem_toArray, List.getElem_cons_zero, List.getElem_cons_succ, List.setIfInBounds_toArray, List.set_cons_zero, List.set_cons_succ]
                  refine anyZ_take 19 30 (v := .int .i64 (n1 : Nat)) rfl (by kernel_rfl) (fun _ _ _ h => h.elim) (Or.inl ⟨by rfl, fun wx hx => by obtain ⟨⟨p0, p1⟩, p2, p3⟩ := hx; clear HS3; go_simp⟩) HS3 ?_
                  try simp only [Act.put, List.getElem_toArray, List.getElem_cons_zero, List.getElem_cons_succ, List.setIfInBounds_toArray, List.set_cons_zero, List.set_cons_succ]
                  refine anyZ_take 20 30 (v := .bool false) rfl (by kernel_rfl) (fun _ _ _ h => h.elim) (Or.inl ⟨by rfl, fun wx hx => by obtain ⟨⟨p0, p1⟩, p2, p3⟩ := hx; clear HS3; go_simp⟩) HS3 ?_
                  try simp only [Act.put, List.getElem_toArray, List.getElem_cons_zero, List.getElem_cons_succ, List.setIfInBounds_toArray, List.set_cons_zero, List.set_cons_succ]
                  refine anyZ_take 21 30 (v := .bool false) rfl (by kernel_rfl) (fun _ _ _ h => h.elim) (Or.inl ⟨by rfl, fun wx hx => by obtain ⟨⟨p0, p1⟩, p2, p3⟩ := hx; clear HS3; go_simp⟩) HS3 ?_
                  try simp only [Act.put, List.getElem_toArray, List.getElem_cons_zero, List.getElem_cons_succ, List.setIfInBounds_toArray, List.set_cons_zero, List.set_cons_succ]
                  refine anyZ_done (by kernel_rfl) ?_ _
                  dsimp only [Only, Exit.then]
                  have HB9 := hide (bt HB8.out hu)
                  clear HS HS1 HS2 HS3 hu1 hu1' hu2 hu3 hu
                  have HE : Hid (∃ i' : Nat, (Value.int .i64 (((i : Nat) : Int) + 1)) = .int .i64 (i' : Nat) ∧ i' ≤ 8 ∧ Below Zg.heap.size Zg U3) := hide ⟨i + 1, by push_cast; rfl, by omega, HB9.out⟩
                  go_wp2_with fail
                  go_roundw
                  case rel => exact HE.out
                  case measure => simp [intOf]; omega
                · have TA2 := TA1.kept hb5
                  have TB2 := TB1.kept hb5
                  have TK2 := KT.kept hb5
                  obtain ⟨kx, hkx⟩ : ∃ v, bx = v := ⟨_, rfl⟩
                  obtain ⟨ky, hky⟩ : ∃ v, ay = v := ⟨_, rfl⟩
                  obtain ⟨Z8, hZ8⟩ : ∃ v, (w5.setCell ⟨kb, 0, none⟩ (.int .i64 bx)).setCell ⟨kb, 1, none⟩ (.int .i64 ay) = v := ⟨_, rfl⟩
                  have TA : Two Z8 p4 ax ay := by rw [← hZ8]; exact TA2.other nk4
                  have TB : Two Z8 q5 bx ay := by rw [← hZ8]; exact TB2.other nk5
                  have TK : Two Z8 kb kx ky := by rw [← hZ8, ← hkx, ← hky]; exact TK2.set
                  have B8 : Below Zt.heap.size Zt Z8 := by rw [← hZ8]; exact ((bt Bk hb5).setCell (p := ⟨kb, 0, none⟩) lk _).setCell (p := ⟨kb, 1, none⟩) lk _
                  have Hk0 : Hid ((ty / 8 < y / 8 ∨ (ty / 8 = y / 8 ∧ tx / 8 < x / 8)) ∧ kx = tx / 8 ∧ ky = ty / 8 ∨ ¬ (ty / 8 < y / 8 ∨ (ty / 8 = y / 8 ∧ tx / 8 < x / 8)) ∧ kx = x / 8 ∧ ky = y / 8) := hide (by
                    rw [Hab.out.1.1, Hab.out.1.2, Hab.out.2.1, Hab.out.2.2]
                    exact .inl ⟨of_decide_eq_true Hlb.out, hkx.symm, hky.symm⟩)
                  obtain ⟨⟨k0, k1⟩, ⟨k2, k3⟩, -⟩ := id TK2
                  obtain ⟨⟨u0, u1⟩, -, -⟩ := id TB2
                  obtain ⟨⟨u2, u3⟩, -, -⟩ := id TA2
                  have HZ8 := hide hZ8
                  clear KT TA1 TB1 TA2 TB2 TK2 Bk lk hb5 hkx hky HKf HBk HLs hZ8
                  obtain ⟨⟨z0, z1⟩, -, -⟩ := id TA
                  obtain ⟨⟨z2, z3⟩, -, -⟩ := id TB
                  obtain ⟨n1, hn1⟩ : ∃ n, (rnR S wd ht kx ky 0).length = n := ⟨_, rfl⟩
                  have hn8 : (0 : Int) ≤ (n1 : Nat) ∧ ((n1 : Nat) : Int) ≤ 8 := by have := (rnR_ok S wd ht kx ky 0).2; omega
                  have hn0 : ¬ ((n1 : Nat) : Int) = 0 := by
                    have h0 := cross_right HdIJ.out.1 HdIJ.out.2 HSt.out Hst2.out Htz.out.1 Htz.out.2 (by rw [Hab.out.1.1, Hab.out.2.1]; exact e1) (by rw [Hab.out.1.2, Hab.out.2.2]) Hk0.out
                    have h1 : n1 ≠ 0 := fun q => h0 (List.length_eq_zero_iff.1 (hn1.trans q))
                    omega
                  have hnN : ¬ n1 = 0 := by omega
                  have Hn1 := hide hn1
                  have HB8 : Hid (Below Zg.heap.size Zg Z8) := hide (bt HbZ.out B8)
                  have HK16 : Hid (∀ wx, Below Z8.heap.size Z8 wx → (fun wx : World => (wx.cell? ⟨w.heap.size + 1, 0, none⟩ = some (.int .i64 c) ∧ wx.cell? ⟨w.heap.size + 1, 1, none⟩ = some (.int .i64 s)) ∧ wx.cell? ⟨kb, 0, none⟩ = some (.int .i64 kx) ∧ wx.cell? ⟨kb, 1, none⟩ = some (.int .i64 ky)) wx) := hide fun wx q => ⟨(HK.out wx (bt HB8.out q)).1, (TK.kept q).1⟩
                  have HS := HK16.out _ (Below.drew (Below.refl Z8.heap.size Z8))
                  clear hn1 TA TB TK B8
                  go_wp2_with (rw [HZ8.out])
                  clear z0 z1 z2 z3 k0 k1 k2 k3 u0 u1 u2 u3
                  refine wp_only ?_
                  refine wp_region_z (fun wx : World => (wx.cell? ⟨w.heap.size + 1, 0, none⟩ = some (.int .i64 c) ∧ wx.cell? ⟨w.heap.size + 1, 1, none⟩ = some (.int .i64 s)) ∧ wx.cell? ⟨kb, 0, none⟩ = some (.int .i64 kx) ∧ wx.cell? ⟨kb, 1, none⟩ = some (.int .i64 ky)) [] (by kernel_rfl) ?_
                  refine anyZ_take 0 30 (v := ptr p) rfl (by kernel_rfl) (fun _ _ _ h => h.elim) (Or.inl ⟨by rfl, fun wx hx => by obtain ⟨⟨p0, p1⟩, p2, p3⟩ := hx; clear HS; go_simp⟩) HS ?_
                  try simp only [Act.put, List.getElem_toArray, List.getElem_cons_zero, List.getElem_cons_succ, List.setIfInBounds_toArray, List.set_cons_zero, List.set_cons_succ]
                  refine anyZ_take 1 30 (v := shv c s) rfl (by kernel_rfl) (fun _ _ _ h => h.elim) (Or.inl ⟨by rfl, fun wx hx => by obtain ⟨⟨p0, p1⟩, p2, p3⟩ := hx; clear HS; go_simp⟩) HS ?_
                  try simp only [Act.put, List.getElem_toArray, List.getElem_cons_zero, List.getElem_cons_succ, List.setIfInBounds_toArray, List.set_cons_zero, List.set_cons_succ]
                  refine anyZ_take 2 30 (v := cel kx ky) rfl (by kernel_rfl) (fun _ _ _ h => h.elim) (Or.inl ⟨by rfl, fun wx hx => by obtain ⟨⟨p0, p1⟩, p2, p3⟩ := hx; clear HS; go_simp⟩) HS ?_
                  try simp only [Act.put, List.getElem_toArray, List.getElem_cons_zero, List.getElem_cons_succ, List.setIfInBounds_toArray, List.set_cons_zero, List.set_cons_succ]
                  refine anyZ_take 3 30 (v := .int .i64 0) rfl (by kernel_rfl) (fun _ _ _ h => h.elim) (Or.inl ⟨by rfl, fun wx hx => by obtain ⟨⟨p0, p1⟩, p2, p3⟩ := hx; clear HS; go_simp⟩) HS ?_
                  try simp only [Act.put, List.getElem_toArray, List.getElem_cons_zero, List.getElem_cons_succ, List.setIfInBounds_toArray, List.set_cons_zero, List.set_cons_succ]
                  refine anyZ_ready (rs := [4]) (by kernel_rfl) (by simp) ?_
                  refine readyZ.call rfl rfl (run_call12 (by rfl) (by rfl) (by simp only [List.map_toArray, List.map_cons, List.map_nil]; rfl)) (HP12.out _ (Below.drew HB8.out) kx ky 0) ?_ readyZ.nil
                  rintro e U1 ⟨a1, c1, rfl, hu1'⟩
                  rw [Hn1.out]
                  have hu1 : Below Z8.heap.size Z8 U1 := Below.trans (Below.drew (Below.refl Z8.heap.size Z8)) hu1'
                  have HS1 := HK16.out _ hu1
                  refine ⟨_, rfl, fun _ => HS1, ?_⟩
                  try simp only [Act.put, List.getElem_toArray, List.getElem_cons_zero, List.getElem_cons_succ, List.setIfInBounds_toArray, List.set_cons_zero, List.set_cons_succ]
                  refine anyZ_take 5 30 (v := .int .i64 (n1 : Nat)) rfl (by kernel_rfl) (fun _ _ _ h => h.elim) (Or.inl ⟨by rfl, fun wx hx => by obtain ⟨⟨p0, p1⟩, p2, p3⟩ := hx; clear HS1; go_simp⟩) HS1 ?_
                  try simp only [Act.put, List.getElem_toArray, List.getElem_cons_zero, List.getElem_cons_succ, List.setIfInBounds_toArray, List.set_cons_zero, List.set_cons_succ]
                  refine anyZ_take 6 30 (v := .bool false) rfl (by kernel_rfl) (fun _ _ _ h => h.elim) (Or.inl ⟨by rfl, fun wx hx => by obtain ⟨⟨p0, p1⟩, p2, p3⟩ := hx; clear HS1; go_simp⟩) HS1 ?_
                  try simp only [Act.put, List.getElem_toArray, List.getElem_cons_zero, List.getElem_cons_succ, List.setIfInBounds_toArray, List.set_cons_zero, List.set_cons_succ]
                  refine anyZ_take 7 30 (v := .bool false) rfl (by kernel_rfl) (fun _ _ _ h => h.elim) (Or.inl ⟨by rfl, fun wx hx => by obtain ⟨⟨p0, p1⟩, p2, p3⟩ := hx; clear HS1; go_simp⟩) HS1 ?_
                  try simp only [Act.put, List.getElem_toArray, List.getElem_cons_zero, List.getElem_cons_succ, List.setIfInBounds_toArray, List.set_cons_zero, List.set_cons_succ]
                  refine anyZ_take 8 30 (v := ptr p) rfl (by kernel_rfl) (fun _ _ _ h => h.elim) (Or.inl ⟨by rfl, fun wx hx => by obtain ⟨⟨p0, p1⟩, p2, p3⟩ := hx; clear HS1; go_simp⟩) HS1 ?_
                  try simp only [Act.put, List.getElem_toArray, List.getElem_cons_zero, List.getElem_cons_succ, List.setIfInBounds_toArray, List.set_cons_zero, List.set_cons_succ]
                  refine anyZ_take 9 30 (v := shv c s) rfl (by kernel_rfl) (fun _ _ _ h => h.elim) (Or.inl ⟨by rfl, fun wx hx => by obtain ⟨⟨p0, p1⟩, p2, p3⟩ := hx; clear HS1; go_simp⟩) HS1 ?_
                  try simp only [Act.put, List.getElem_toArray, List.getElem_cons_zero, List.getElem_cons_succ, List.setIfInBounds_toArray, List.set_cons_zero, List.set_cons_succ]
                  refine anyZ_take 10 30 (v := cel kx ky) rfl (by kernel_rfl) (fun _ _ _ h => h.elim) (Or.inl ⟨by rfl, fun wx hx => by obtain ⟨⟨p0, p1⟩, p2, p3⟩ := hx; clear HS1; go_simp⟩) HS1 ?_
                  try simp only [Act.put, List.getElem_toArray, List.getElem_cons_zero, List.getElem_cons_succ, List.setIfInBounds_toArray, List.set_cons_zero, List.set_cons_succ]
                  refine anyZ_take 11 30 (v := .int .i64 0) rfl (by kernel_rfl) (fun _ _ _ h => h.elim) (Or.inl ⟨by rfl, fun wx hx => by obtain ⟨⟨p0, p1⟩, p2, p3⟩ := hx; clear HS1; go_simp⟩) HS1 ?_
                  try simp only [Act.put, List.getElem_toArray, List.getElem_cons_zero, List.getElem_cons_succ, List.setIfInBounds_toArray, List.set_cons_zero, List.set_cons_succ]
                  refine anyZ_take 14 30 (v := ptr p) rfl (by kernel_rfl) (fun _ _ _ h => h.elim) (Or.inl ⟨by rfl, fun wx hx => by obtain ⟨⟨p0, p1⟩, p2, p3⟩ := hx; clear HS1; go_simp⟩) HS1 ?_
                  try simp only [Act.put, List.getElem_toArray, List.getElem_cons_zero, List.getElem_cons_succ, List.setIfInBounds_toArray, List.set_cons_zero, List.set_cons_succ]
                  refine anyZ_take 15 30 (v := shv c s) rfl (by kernel_rfl) (fun _ _ _ h => h.elim) (Or.inl ⟨by rfl, fun wx hx => by obtain ⟨⟨p0, p1⟩, p2, p3⟩ := hx; clear HS1; go_simp⟩) HS1 ?_
                  try simp only [Act.put, List.getElem_toArray, List.getElem_cons_zero, List.getElem_cons_succ, List.setIfInBounds_toArray, List.set_cons_zero, List.set_cons_succ]
                  refine anyZ_take 16 30 (v := cel kx ky) rfl (by kernel_rfl) (fun _ _ _ h => h.elim) (Or.inl ⟨by rfl, fun wx hx => by obtain ⟨⟨p0, p1⟩, p2, p3⟩ := hx; clear HS1; go_simp⟩) HS1 ?_
                  try simp only [Act.put, List.getElem_toArray, List.getElem_cons_zero, List.getElem_cons_succ, List.setIfInBounds_toArray, List.set_cons_zero, List.set_cons_succ]
                  refine anyZ_take 17 30 (v := .int .i64 0) rfl (by kernel_rfl) (fun _ _ _ h => h.elim) (Or.inl ⟨by rfl, fun wx hx => by obtain ⟨⟨p0, p1⟩, p2, p3⟩ := hx; clear HS1; go_simp⟩) HS1 ?_
                  try simp only [Act.put, List.getElem_toArray, List.getElem_cons_zero, List.getElem_cons_succ, List.setIfInBounds_toArray, List.set_cons_zero, List.set_cons_succ]
                  refine anyZ_ready (rs := [12]) (by kernel_rfl) (by simp) ?_
                  refine readyZ.callG rfl (by rfl) (run_call9 (by rfl) (by rfl) (by simp only [List.map_toArray, List.map_cons, List.map_nil]; rfl)) (HP9.out _ (bt HB8.out hu1) kx ky 0) ?_ readyZ.nil
                  rintro e U2 ⟨a2, c2, rfl, hu2⟩
                  rw [Hn1.out]
                  have HS2 := HK16.out _ (bt hu1 hu2)
                  refine ⟨_, rfl, fun _ => HS2, ?_⟩
                  try simp only [Act.put, List.getElem_toArray, List.getElem_cons_zero, List.getElem_cons_succ, List.setIfInBounds_toArray, List.set_cons_zero, List.set_cons_succ]
                  refine anyZ_take 13 30 (v := .int .i64 (n1 : Nat)) rfl (by kernel_rfl) (fun _ _ _ h => h.elim) (Or.inl ⟨by rfl, fun wx hx => by obtain ⟨⟨p0, p1⟩, p2, p3⟩ := hx; clear HS2; go_simp⟩) HS2 ?_
                  try simp only [Act.put, List.getElem_toArray, List.getElem_cons_zero, List.getElem_cons_succ, List.setIfInBounds_toArray, List.set_cons_zero, List.set_cons_succ]
                  refine anyZ_ready (rs := [18]) (by kernel_rfl) (by simp) ?_
                  refine readyZ.callG rfl (by rfl) (run_call12 (by rfl) (by rfl) (by simp only [List.map_toArray, List.map_cons, List.map_nil]; rfl)) (HP12.out _ (bt HB8.out (bt hu1 hu2)) kx ky 0) ?_ readyZ.nil
                  rintro e U3 ⟨a3, c3, rfl, hu3⟩
                  rw [Hn1.out]
                  have hu := bt hu1 (bt hu2 hu3)
                  have HS3 := HK16.out _ hu
                  refine ⟨_, rfl, fun _ => HS3, ?_⟩
                  try simp only [Act.put, List.getElem_toArray, List.getElem_cons_zero, List.getElem_cons_succ, List.setIfInBounds_toArray, List.set_cons_zero, List.set_cons_succ]
                  refine anyZ_take 19 30 (v := .int .i64 (n1 : Nat)) rfl (by kernel_rfl) (fun _ _ _ h => h.elim) (Or.inl ⟨by rfl, fun wx hx => by obtain ⟨⟨p0, p1⟩, p2, p3⟩ := hx; clear HS3; go_simp⟩) HS3 ?_
                  try simp only [Act.put, List.getElem_toArray, List.getElem_cons_zero, List.getElem_cons_succ, List.setIfInBounds_toArray, List.set_cons_zero, List.set_cons_succ]
                  refine anyZ_take 20 30 (v := .bool false) rfl (by kernel_rfl) (fun _ _ _ h => h.elim) (Or.inl ⟨by rfl, fun wx hx => by obtain ⟨⟨p0, p1⟩, p2, p3⟩ := hx; clear HS3; go_simp⟩) HS3 ?_
                  try simp only [Act.put, List.getElem_toArray, List.getElem_cons_zero, List.getElem_cons_succ, List.setIfInBounds_toArray, List.set_cons_zero, List.set_cons_succ]
                  refine anyZ_take 21 30 (v := .bool false) rfl (by kernel_rfl) (fun _ _ _ h => h.elim) (Or.inl ⟨by rfl, fun wx hx => by obtain ⟨⟨p0, p1⟩, p2, p3⟩ := hx; clear HS3; go_simp⟩) HS3 ?_
                  try simp only [Act.put, List.getElem_toArray, List.getElem_cons_zero, List.getElem_cons_succ, List.setIfInBounds_toArray, List.set_cons_zero, List.set_cons_succ]
                  refine anyZ_done (by kernel_rfl) ?_ _
                  dsimp only [Only, Exit.then]
                  have HB9 := hide (bt HB8.out hu)
                  clear HS HS1 HS2 HS3 hu1 hu1' hu2 hu3 hu
                  have HE : Hid (∃ i' : Nat, (Value.int .i64 (((i : Nat) : Int) + 1)) = .int .i64 (i' : Nat) ∧ i' ≤ 8 ∧ Below Zg.heap.size Zg U3) := hide ⟨i + 1, by push_cast; rfl, by omega, HB9.out⟩
                  go_wp2_with fail
                  go_roundw
                  case rel => exact HE.out
                  case measure => simp [intOf]; omega
              · have hn1 : (ax != bx) = true := by simp [e1]
                have hn2 : (ay != by') = true := by simp [e2]
                have hce : ∀ wx, (binOp .eql 35 (cel ax ay) (cel bx by')).run Tryz.prog wx = .ok (.bool false) wx := fun wx => (eqC _ _ _ _ wx).trans (by rw [decide_eq_false e1]; rfl)
                have HB7 : Hid (Below Zg.heap.size Zg Z7) := hide (bt HbZ.out B7)
                obtain ⟨⟨y0, y1⟩, -, -⟩ := id T4
                obtain ⟨⟨y2, y3⟩, -, -⟩ := id T5
                clear T4 T5 B7
                have HE : Hid (∃ i' : Nat, (Value.int .i64 (((i : Nat) : Int) + 1)) = .int .i64 (i' : Nat) ∧ i' ≤ 8 ∧ Below Zg.heap.size Zg Z7) := hide ⟨i + 1, by push_cast; rfl, by omega, HB7.out⟩
                go_wp2_with fail
                go_roundw
                case rel => exact HE.out
                case measure => simp [intOf]; omega
      · have hle : ¬ ((i : Nat) : Int) < 8 := by omega
        have Hbl := hide (bt HBW.out hbl)
        clear hbl
        go_wp2_with fail
        refine (HAw.out _ Hbl.out).mono ?_
        rintro e w9 ⟨rfl, hb9⟩
        have HE := hide (bt Hbl.out hb9)
        clear hb9
        go_wp2_with fail
        go_ret
        exact ⟨rfl, HE.out⟩
  · have HBo := hide (both_no W H _ _ tl L X (hv.kept B0) hb (hl.kept B0) hc)
    clear hX B0 hv hl hb hg ho hc M0 T0 C0 Hgo Hwf wfx wfy
    go_enter Tryz.func5, Tryz.ntmps5
    go_wp2_with fail
    rw [HX.out]
    refine HBo.out.mono ?_
    rintro e w1 ⟨rfl, hb1⟩
    have HB1 := hide hb1
    clear m0 m1 m2 m3 HBo hb1
    go_wp2_with fail
    refine (HAw.out _ (bt HB0.out HB1.out)).mono ?_
    rintro e w9 ⟨rfl, hb9⟩
    have HE := hide (bt (bt HB0.out HB1.out) hb9)
    clear hb9
    go_wp2_with fail
    go_ret
    exact ⟨rfl, HE.out⟩
end Go.Proofs.YtkjogcnoaipniaaGreatDoor
