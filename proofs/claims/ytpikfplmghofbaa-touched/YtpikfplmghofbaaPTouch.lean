/-
  cluster.Touched: the clusters of which an edit may turn something, in a row of the call's own.
-/
import Derived.Test.YtpikfplmghofbaaTch
import Derived.Test.YtpikfplmghofbaaGath
set_option linter.unusedSimpArgs false
namespace Go.Proofs.Ytpikfplmghofbaa
open Go.RowKit
set_option linter.unusedVariables false
attribute [local go_sem] Oper.semAt_some
theorem Four.new (w : World) (t : TypeId) (x y a b : Int) : Four (w.alloc (.cells #[.int .i64 x, .int .i64 y, .int .i64 a, .int .i64 b] t)) w.heap.size x y a b := cells4 (Below.refl _ _)
theorem Four.newAt {w : World} {k : Nat} (t : TypeId) (x y a b : Int) (h : w.heap.size = k) : Four (w.alloc (.cells #[.int .i64 x, .int .i64 y, .int .i64 a, .int .i64 b] t)) k x y a b := by subst h; exact Four.new w t x y a b
theorem widened_any (x y a b : Int) (w : World) (h : (-1000 ≤ x ∧ x ≤ 1000) ∧ (-1000 ≤ y ∧ y ≤ 1000) ∧ (-1000 ≤ a ∧ a ≤ 1000) ∧ -1000 ≤ b ∧ b ≤ 1000) :
    Calls Try.prog 26 #[rct x y a b] w fun e w' => e = .returned (rct (x - 1) (y - 1) (a + 2) (b + 2)) ∧ Below w.heap.size w w' := by
  obtain ⟨hx, hy, ha, hb⟩ := h
  obtain ⟨X, hX⟩ : ∃ X, (w.alloc (.cells #[.int .i64 x, .int .i64 y, .int .i64 a, .int .i64 b] 35)).alloc (.cells #[.int .i64 0, .int .i64 0, .int .i64 0, .int .i64 0] 35) = X := ⟨_, rfl⟩
  have B0 : Below w.heap.size w X := by rw [← hX]; exact box2 _ _ _
  have F0 : Four X w.heap.size x y a b := by rw [← hX]; exact (Four.new _ _ _ _ _ _).kept (box1 _ _)
  have F1 : Four X (w.heap.size + 1) 0 0 0 0 := by rw [← hX]; exact Four.newAt _ _ _ _ _ (by simp)
  have HB := hide B0
  clear B0
  obtain ⟨⟨c0, c1, c2, c3⟩, -, z0⟩ := F0
  obtain ⟨⟨d0, d1, d2, d3⟩, ⟨g0, g1, g2, g3⟩, z1⟩ := F1
  go_enter Try.func26, Try.ntmps26
  go_wp2_with fail
  refine bodyPost_ret (v := rct (x - 1) (y - 1) (a + 2) (b + 2)) (by simp [results, Try.results26, go_sem, *]) rfl ⟨rfl, ?_⟩
  exact set4 HB.out (by simp)
theorem meet_t {W H x y a b : Int} (hW : 1 ≤ W ∧ W ≤ 128) (hH : 1 ≤ H ∧ H ≤ 128) (h : wi x y a b 0 0 W H = true) :
    mtB ((x - 3) / 8 - 1) ((y - 3) / 8 - 1) ((x + a - 1) / 8 - (x - 3) / 8 + 3) ((y + b - 1) / 8 - (y - 3) / 8 + 3) 0 0 (clN W) (clN H) = true ∧
    mtV ((x - 3) / 8 - 1) ((y - 3) / 8 - 1) ((x + a - 1) / 8 - (x - 3) / 8 + 3) ((y + b - 1) / 8 - (y - 3) / 8 + 3) 0 0 (clN W) (clN H) = rct (tU x) (tU y) (tS x a (clN W) - tU x + 1) (tS y b (clN H) - tU y + 1) := by
  obtain ⟨-, hx, hy⟩ := wi_parts h
  have h1 : mtB ((x - 3) / 8 - 1) ((y - 3) / 8 - 1) ((x + a - 1) / 8 - (x - 3) / 8 + 3) ((y + b - 1) / 8 - (y - 3) / 8 + 3) 0 0 (clN W) (clN H) = true := by
    have m1 : may ((x - 3) / 8 - 1) ((y - 3) / 8 - 1) ((x + a - 1) / 8 - (x - 3) / 8 + 3) ((y + b - 1) / 8 - (y - 3) / 8 + 3) = true := by rw [may_iff]; omega
    have m2 : may 0 0 (clN W) (clN H) = true := by rw [may_iff]; unfold clN; omega
    simp only [mtB, m1, m2, Bool.true_and, Bool.and_eq_true, decide_eq_true_eq]
    unfold clN
    omega
  refine ⟨h1, ?_⟩
  rw [mtV_yes h1]
  unfold span tU tS
  have e1 : (x - 3) / 8 - 1 + ((x + a - 1) / 8 - (x - 3) / 8 + 3) - 1 = (x + a - 1) / 8 + 1 := by omega
  have e2 : (y - 3) / 8 - 1 + ((y + b - 1) / 8 - (y - 3) / 8 + 3) - 1 = (y + b - 1) / 8 + 1 := by omega
  have e3 : 0 + clN W - 1 = clN W - 1 := by omega
  have e4 : 0 + clN H - 1 = clN H - 1 := by omega
  rw [e1, e2, e3, e4]
set_option maxRecDepth 100000 in
set_option maxHeartbeats 4000000 in
theorem touched_no {w : World} {p : Nat} {W H : Int} {tl : List Nat} {f : Int → Int → Option Int} (x y a b : Int) (hw : Wl w p W H tl f) (h : wi x y a b 0 0 W H = false) :
    Calls Try.prog 13 #[ptr p, rct x y a b] w fun e w' => e = .returned (.slice none 0 0) ∧ Below w.heap.size w w' := by
  obtain ⟨X, hX⟩ : ∃ X, w.alloc (.cells #[.int .i64 x, .int .i64 y, .int .i64 a, .int .i64 b] 35) = X := ⟨_, rfl⟩
  have B0 : Below w.heap.size w X := by rw [← hX]; exact box1 _ _
  have F0 : Four X w.heap.size x y a b := by rw [← hX]; exact Four.new _ _ _ _ _ _
  have HK : Hid (∀ n : Lat X, Wl n.w p W H tl f) := hide fun n => hw.kept (bt B0 n.h)
  have HI := hide h
  have HB := hide B0
  clear h B0 hw
  go_enter Try.func13, Try.ntmps13
  go_wp2_with fail
  clear hX
  obtain ⟨d0, d1, d2, d3⟩ := F0.lat
  have hne := lat_some X
  refine wp_region_lat (by kernel_rfl) (by kernel_rfl) ?_
  repeat (go_big_quiet_step (first | (go_at_call 24; exact calls_lat (all_is (HK.out _))) | (go_at_call 23; exact calls_lat (within_is _ HI.out))))
  refine wpQuiet_nil ?_
  rintro _ ⟨n, rfl⟩
  go_wp2_with fail
  go_ret
  exact ⟨rfl, bt HB.out n.h⟩
set_option maxRecDepth 100000 in
set_option maxHeartbeats 4000000 in
theorem touched_yes {w : World} {p : Nat} {W H : Int} {tl : List Nat} {f : Int → Int → Option Int} (x y a b : Int) (hw : Wl w p W H tl f) (h : wi x y a b 0 0 W H = true) :
    Calls Try.prog 13 #[ptr p, rct x y a b] w fun e w' => ∃ v, e = .returned v ∧ Cn w' v ((allC (tU x) (tU y) (tS x a (clN W) - tU x + 1) (tS y b (clN H) - tU y + 1)).map (·.1)) ∧ Below w.heap.size w w' := by
  obtain ⟨hW, hH⟩ := hw.sides
  obtain ⟨-, hx, hy⟩ := wi_parts h
  obtain ⟨hmb, hmv⟩ := meet_t hW hH h
  have hsm : (0 ≤ tU x ∧ tS x a (clN W) - tU x + 1 ≤ 16) ∧ 0 ≤ tU y ∧ tS y b (clN H) - tU y + 1 ≤ 16 := by unfold tU tS clN; omega
  have Hsz : Hid ((tS y b (clN H) - tU y + 1).toNat * (tS x a (clN W) - tU x + 1).toNat ≤ 20000) := hide (by
    have := Nat.mul_le_mul (show (tS y b (clN H) - tU y + 1).toNat ≤ 16 by omega) (show (tS x a (clN W) - tU x + 1).toNat ≤ 16 by omega)
    omega)
  have HO1 := hide (of_any (x - 3) (y - 3) (w64_of (by omega)) (w64_of (by omega)))
  have HO2 := hide (of_any (x + a - 1) (y + b - 1) (w64_of (by omega)) (w64_of (by omega)))
  have HM := hide (meet_any ((x - 3) / 8 - 1) ((y - 3) / 8 - 1) ((x + a - 1) / 8 - (x - 3) / 8 + 3) ((y + b - 1) / 8 - (y - 3) / 8 + 3) 0 0 (clN W) (clN H))
  rw [hmb, hmv] at HM
  clear hmb hmv hsm
  have hf1 : -1 ≤ (x - 3) / 8 ∧ (x - 3) / 8 ≤ 16 := by omega
  have hf2 : -1 ≤ (y - 3) / 8 ∧ (y - 3) / 8 ≤ 16 := by omega
  have hl1 : 0 ≤ (x + a - 1) / 8 ∧ (x + a - 1) / 8 ≤ 16 := by omega
  have hl2 : 0 ≤ (y + b - 1) / 8 ∧ (y + b - 1) / 8 ≤ 16 := by omega
  generalize hU : tU x = U at HM Hsz ⊢
  generalize hV : tU y = V at HM Hsz ⊢
  generalize hA : tS x a (clN W) - U + 1 = A at HM Hsz ⊢
  generalize hB : tS y b (clN H) - V + 1 = B at HM Hsz ⊢
  clear hU hV hA hB
  have HC : Hid (∀ wx, Below w.heap.size w wx → Calls Try.prog 27 #[ptr p] wx fun e w' => e = .returned (rct 0 0 (clN W) (clN H)) ∧ Below wx.heap.size wx w') := hide fun wx hx => clus_is (hw.kept hx)
  generalize clN W = KW at HM HC
  generalize clN H = KH at HM HC
  generalize (x - 3) / 8 = fx at HO1 HM hf1
  generalize (y - 3) / 8 = fy at HO1 HM hf2
  generalize (x + a - 1) / 8 = lx at HO2 HM hl1
  generalize (y + b - 1) / 8 = ly at HO2 HM hl2
  have HWd : Hid (∀ wx, Calls Try.prog 26 #[rct fx fy (lx - fx + 1) (ly - fy + 1)] wx fun e w' => e = .returned (rct (fx - 1) (fy - 1) (lx - fx + 3) (ly - fy + 3)) ∧ Below wx.heap.size wx w') := hide fun wx => by
    have := widened_any fx fy (lx - fx + 1) (ly - fy + 1) wx (by omega)
    rwa [show lx - fx + 1 + 2 = lx - fx + 3 by omega, show ly - fy + 1 + 2 = ly - fy + 3 by omega] at this
  obtain ⟨X, hX⟩ : ∃ X, w.alloc (.cells #[.int .i64 x, .int .i64 y, .int .i64 a, .int .i64 b] 35) = X := ⟨_, rfl⟩
  have B0 : Below w.heap.size w X := by rw [← hX]; exact box1 _ _
  have F0 : Four X w.heap.size x y a b := by rw [← hX]; exact Four.new _ _ _ _ _ _
  have HK : Hid (∀ n : Lat X, Wl n.w p W H tl f) := hide fun n => hw.kept (bt B0 n.h)
  have HI := hide h
  have HBx := hide (And.intro hf1 (And.intro hf2 (And.intro hl1 hl2)))
  have HXY := hide (And.intro hx hy)
  have HWH := hide (And.intro hW hH)
  have HB0 := hide B0
  clear h B0 hw hf1 hf2 hl1 hl2 hx hy hW hH
  go_enter Try.func13, Try.ntmps13
  go_wp2_with fail
  clear hX
  obtain ⟨d0, d1, d2, d3⟩ := F0.lat
  have hne := lat_some X
  refine wp_region_lat (by kernel_rfl) (by kernel_rfl) ?_
  repeat (go_big_quiet_step (first | (go_at_call 24; exact calls_lat (all_is (HK.out _))) | (go_at_call 23; exact calls_lat (within_is _ HI.out))))
  refine wpQuiet_nil ?_
  rintro _ ⟨n, rfl⟩
  have F1 := F0.kept n.h
  have HB1 := hide (bt HB0.out n.h)
  clear d0 d1 d2 d3 hne F0 HB0 HI HK
  obtain ⟨⟨c0, c1, c2, c3⟩, -, -⟩ := id F1
  obtain ⟨hx, hy⟩ := HXY.out
  obtain ⟨hW, hH⟩ := HWH.out
  have e1 : IntKind.i64.wrap (x - 3) = x - 3 := by rw [IntKind.wrap_i64]; omega
  have e2 : IntKind.i64.wrap (y - 3) = y - 3 := by rw [IntKind.wrap_i64]; omega
  have e3 : IntKind.i64.wrap (x + a) = x + a := by rw [IntKind.wrap_i64]; omega
  have e4 : IntKind.i64.wrap (y + b) = y + b := by rw [IntKind.wrap_i64]; omega
  have e5 : IntKind.i64.wrap (x + a - 1) = x + a - 1 := by rw [IntKind.wrap_i64]; omega
  have e6 : IntKind.i64.wrap (y + b - 1) = y + b - 1 := by rw [IntKind.wrap_i64]; omega
  clear hx hy hW hH
  go_wp2_with fail
  refine (HO1.out _).mono ?_
  rintro e w2 ⟨rfl, hb2⟩
  obtain ⟨w3, h3⟩ : ∃ w3, w2.alloc (.cells #[.int .i64 fx, .int .i64 fy] 23) = w3 := ⟨_, rfl⟩
  have Tf : Two w3 w2.heap.size fx fy := by rw [← h3]; exact Two.newAt rfl
  have B3 : Below n.w.heap.size n.w w3 := bt hb2 (by rw [← h3]; exact box1 _ _)
  have F3 := F1.kept B3
  have HB3 := hide (bt HB1.out B3)
  clear c0 c1 c2 c3 F1 B3 HB1 HO1 e1 e2
  obtain ⟨⟨c0, c1, c2, c3⟩, -, -⟩ := id F3
  go_wp2_with fail
  clear h3
  refine (HO2.out _).mono ?_
  rintro e w4 ⟨rfl, hb4⟩
  obtain ⟨w5, h5⟩ : ∃ w5, w4.alloc (.cells #[.int .i64 lx, .int .i64 ly] 23) = w5 := ⟨_, rfl⟩
  have Tl : Two w5 w4.heap.size lx ly := by rw [← h5]; exact Two.newAt rfl
  have B5 : Below w3.heap.size w3 w5 := bt hb4 (by rw [← h5]; exact box1 _ _)
  have Tf5 := Tf.kept B5
  have HB5 := hide (bt HB3.out B5)
  clear c0 c1 c2 c3 F3 B5 HB3 HO2 e3 e4 e5 e6 Tf
  obtain ⟨⟨l0, l1⟩, -, -⟩ := id Tl
  obtain ⟨⟨f0, f1⟩, -, -⟩ := id Tf5
  obtain ⟨hf1, hf2, hl1, hl2⟩ := HBx.out
  obtain ⟨w6, h6⟩ : ∃ w6, w5.alloc (.cells #[.int .i64 fx, .int .i64 fy, .int .i64 (lx - fx + 1), .int .i64 (ly - fy + 1)] 35) = w6 := ⟨_, rfl⟩
  have F6 : Four w6 w5.heap.size fx fy (lx - fx + 1) (ly - fy + 1) := by rw [← h6]; exact Four.new _ _ _ _ _ _
  have HB6 := hide (bt HB5.out (show Below w5.heap.size w5 w6 by rw [← h6]; exact box1 _ _))
  obtain ⟨⟨k0, k1, k2, k3⟩, -, -⟩ := id F6
  go_wp2_with fail
  clear h5 h6 l0 l1 f0 f1 k0 k1 k2 k3 hf1 hf2 hl1 hl2
  refine (HWd.out w6).mono ?_
  rintro e w7 ⟨rfl, hb7⟩
  have HB7 := hide (bt HB6.out hb7)
  clear hb7 HWd HB6 HB5 F6 Tl Tf5 hb4 hb2
  go_wp2_with fail
  refine (HC.out w7 HB7.out).mono ?_
  rintro e w8 ⟨rfl, hb8⟩
  have HB8 := hide (bt HB7.out hb8)
  clear hb8 HB7 HC
  go_wp2_with fail
  refine (HM.out w8).mono ?_
  rintro e w9 ⟨rfl, hb9⟩
  have HB9 := hide (bt HB8.out hb9)
  clear hb9 HB8 HM
  obtain ⟨wa, ha⟩ : ∃ wa, w9.alloc (.cells #[.int .i64 U, .int .i64 V, .int .i64 A, .int .i64 B] 35) = wa := ⟨_, rfl⟩
  have Fa : Four wa w9.heap.size U V A B := by rw [← ha]; exact Four.new _ _ _ _ _ _
  have HBa := hide (bt HB9.out (show Below w9.heap.size w9 wa by rw [← ha]; exact box1 _ _))
  obtain ⟨⟨k0, k1, k2, k3⟩, -, -⟩ := id Fa
  go_wp2_with fail
  clear ha k0 k1 k2 k3
  refine (cells_any U V A B wa).mono ?_
  rintro e wb ⟨rfl, hb⟩
  have Fb : Four wb wa.heap.size U V A B := by rw [hb]; exact Four.new _ _ _ _ _ _
  have HBb := hide (bt HBa.out (show Below wa.heap.size wa wb by rw [hb]; exact box1 _ _))
  clear hb
  have HCo := hide (collect_any wa.heap.size U V A B wb Fb (fun _ => Hsz.out))
  go_wp2_with fail
  refine HCo.out.mono ?_
  rintro e wc ⟨v, rfl, hv, -, hbc⟩
  obtain ⟨v1, v2, v3, rfl⟩ := hv.slice
  have HV := hide (And.intro hv (bt HBb.out hbc))
  clear hv hbc HCo Fa Fb
  go_wp2_with fail
  go_ret
  exact ⟨_, rfl, HV.out⟩
end Go.Proofs.Ytpikfplmghofbaa
