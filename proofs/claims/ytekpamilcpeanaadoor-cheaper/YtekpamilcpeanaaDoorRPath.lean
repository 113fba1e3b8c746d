/-
  The document's Dir and Cost, its Steps, Legal and Cost of a path.
-/
import Derived.Test.YtekpamilcpeanaaDoorGnd
namespace Go.Proofs.YtekpamilcpeanaaDoor
open Go.RowKit Go.Shelf
set_option linter.unusedVariables false
set_option linter.unusedSimpArgs false
set_option maxHeartbeats 1000000 in
theorem refcost_any (d : Int) (w : World) : Calls Tryd.prog 30 #[.int .i64 d] w fun e w' => e = .returned (.int .i64 (co d)) ∧ w' = w := by
  cases h : isD d
  · rw [show co d = 0 by simp [co, h]]
    have h' := (isD_not d).1 h
    by_cases h0 : d < 0
    all_goals
      go_enter Tryd.func30, Tryd.ntmps30
      go_wp2
      go_ret
      exact ⟨rfl, rfl⟩
  · obtain ⟨h0, h1⟩ := (isD_iff d).1 h
    by_cases h4 : 4 ≤ d
    · rw [show co d = 14 by simp [co, h, oc, h4]]
      go_enter Tryd.func30, Tryd.ntmps30
      go_wp2
      go_ret
      exact ⟨rfl, rfl⟩
    · rw [show co d = 10 by simp [co, h, oc, h4]]
      go_enter Tryd.func30, Tryd.ntmps30
      go_wp2
      go_ret
      exact ⟨rfl, rfl⟩
def hitD (x y tx ty : Int) (k : Nat) : Bool := sB x y k && (decide (sX x y k = tx) && decide (sY x y k = ty))
def dirF (f : Nat → Bool) : Nat → Nat → Int
  | _, 0 => -1
  | k, n + 1 => if f k = true then (k : Int) else dirF f (k + 1) n
theorem dirF_hit {f : Nat → Bool} {k : Nat} (hk : k < 8) (h : f k = true) : dirF f k (8 - k) = k := by
  obtain ⟨n, hn⟩ : ∃ n, 8 - k = n + 1 := ⟨7 - k, by omega⟩
  rw [hn]; simp [dirF, h]
theorem dirF_miss {f : Nat → Bool} {k : Nat} (hk : k < 8) (h : f k = false) : dirF f k (8 - k) = dirF f (k + 1) (8 - (k + 1)) := by
  obtain ⟨n, hn⟩ : ∃ n, 8 - k = n + 1 := ⟨7 - k, by omega⟩
  have hn' : 8 - (k + 1) = n := by omega
  rw [hn, hn']; simp [dirF, h]
theorem dirF_end {f : Nat → Bool} : dirF f 8 (8 - 8) = -1 := rfl
def dirN (x y tx ty : Int) : Int := dirF (hitD x y tx ty) 0 (8 - 0)
abbrev W2 (w : World) (x y tx ty : Int) : World := (w.alloc (.cells #[.int .i64 x, .int .i64 y] 23)).alloc (.cells #[.int .i64 tx, .int .i64 ty] 23)
theorem int8 {k : Nat} (h : ¬ k < 8) (h' : k ≤ 8) : k = 8 := by omega
set_option maxHeartbeats 1000000 in
theorem refdir_any (x y tx ty : Int) (w : World) :
    Calls Tryd.prog 29 #[.agg #[.int .i64 x, .int .i64 y], .agg #[.int .i64 tx, .int .i64 ty]] w fun e w' => e = .returned (.int .i64 (dirN x y tx ty)) ∧ Below w.heap.size w w' := by
  go_enter Tryd.func29, Tryd.ntmps29
  go_wp2_with fail
  go_loopw [5] (fun i wr => ∃ k : Nat, k ≤ 8 ∧ i = .int .i64 k ∧ Hid (dirN x y tx ty = dirF (hitD x y tx ty) k (8 - k)) ∧ Below (W2 w x y tx ty).heap.size (W2 w x y tx ty) wr) (fun i _ => (8 - intOf i).toNat)
  case atStart => exact ⟨0, by omega, rfl, rfl, Below.refl _ _⟩
  case round =>
    obtain ⟨k, hk, rfl, hd, hb⟩ := hrel
    obtain ⟨⟨c0, c1⟩, _, z0⟩ := cells2' hb
    obtain ⟨⟨e0, e1⟩, ⟨f0, f1⟩, z1⟩ := cells2'' hb
    have HB := hide (bt (box2 w _ _) hb)
    have Hb := hide hb
    clear hb
    by_cases hlt : k < 8
    · cases hs : sB x y k
      · have hh := hide (dirF_miss (f := hitD x y tx ty) hlt (by simp [hitD, hs]))
        go_wp2_with (go_at_call 45; refine (refstep_any _ _ _ _).mono ?_; rintro e w1 ⟨rfl, hb1⟩; obtain ⟨⟨e2, e3⟩, f2, f3⟩ := Below.two hb1 z1 e0 e1 f0 f1; have z2 := Nat.lt_of_lt_of_le z1 hb1.size; have Hb1 := hide hb1; clear hb1)
        go_roundw
        case rel => exact ⟨k + 1, by omega, by go_num, hd.out.trans hh.out, (Hb.out.trans (Hb1.out.mono Hb.out.size)).alloc (by have := Hb.out.size; have := Hb1.out.size; omega) _⟩
        case measure => simp [intOf]; omega
      · by_cases hx : sX x y k = tx
        · by_cases hy : sY x y k = ty
          · have hh := hide (dirF_hit (f := hitD x y tx ty) hlt (by simp [hitD, hs, hx, hy]))
            go_wp2_with (go_at_call 45; refine (refstep_any _ _ _ _).mono ?_; rintro e w1 ⟨rfl, hb1⟩; obtain ⟨⟨e2, e3⟩, f2, f3⟩ := Below.two hb1 z1 e0 e1 f0 f1; have z2 := Nat.lt_of_lt_of_le z1 hb1.size; have Hb1 := hide hb1; clear hb1)
            go_ret
            exact ⟨ret_int (hd.out.trans hh.out).symm, bt (bt HB.out Hb1.out) (box1 _ _)⟩
          · have hh := hide (dirF_miss (f := hitD x y tx ty) hlt (by simp [hitD, hs, hx, hy]))
            go_wp2_with (go_at_call 45; refine (refstep_any _ _ _ _).mono ?_; rintro e w1 ⟨rfl, hb1⟩; obtain ⟨⟨e2, e3⟩, f2, f3⟩ := Below.two hb1 z1 e0 e1 f0 f1; have z2 := Nat.lt_of_lt_of_le z1 hb1.size; have Hb1 := hide hb1; clear hb1)
            go_roundw
            case rel => exact ⟨k + 1, by omega, by go_num, hd.out.trans hh.out, (Hb.out.trans (Hb1.out.mono Hb.out.size)).alloc (by have := Hb.out.size; have := Hb1.out.size; omega) _⟩
            case measure => simp [intOf]; omega
        · have hh := hide (dirF_miss (f := hitD x y tx ty) hlt (by simp [hitD, hs, hx]))
          go_wp2_with (go_at_call 45; refine (refstep_any _ _ _ _).mono ?_; rintro e w1 ⟨rfl, hb1⟩; obtain ⟨⟨e2, e3⟩, f2, f3⟩ := Below.two hb1 z1 e0 e1 f0 f1; have z2 := Nat.lt_of_lt_of_le z1 hb1.size; have Hb1 := hide hb1; clear hb1)
          go_roundw
          case rel => exact ⟨k + 1, by omega, by go_num, hd.out.trans hh.out, (Hb.out.trans (Hb1.out.mono Hb.out.size)).alloc (by have := Hb.out.size; have := Hb1.out.size; omega) _⟩
          case measure => simp [intOf]; omega
    · obtain rfl := int8 hlt hk
      go_wp2_with fail
      go_ret
      exact ⟨ret_int (hd.out.trans dirF_end).symm, HB.out⟩
theorem off_inj : ∀ j k : Fin 8, j ≠ k → ¬ (dX j.val = dX k.val ∧ dY j.val = dY k.val) := by decide
/-- The direction of a step is the one by which it was made. -/
theorem dirN_self {x y : Int} {k : Nat} (hk : k < 8) (h : sB x y k = true) : dirN x y (x + dX k) (y + dY k) = k := by
  have hm : ∀ j : Nat, j < 8 → j ≠ k → hitD x y (x + dX k) (y + dY k) j = false := fun j hj hne => by
    cases hs : sB x y (j : Int)
    · simp [hitD, hs]
    · simp only [hitD, hs, sX_yes hs, sY_yes hs, Int.toNat_natCast, Bool.true_and, Bool.and_eq_false_iff, decide_eq_false_iff_not]
      have := off_inj ⟨j, hj⟩ ⟨k, hk⟩ (fun e => hne (by simpa using e))
      simp only at this
      omega
  have hh : hitD x y (x + dX k) (y + dY k) k = true := by
    simp only [hitD, h, sX_yes h, sY_yes h, Int.toNat_natCast, decide_true, Bool.and_self]
  suffices H : ∀ n a : Nat, a + n = k → dirF (hitD x y (x + dX k) (y + dY k)) a (8 - a) = k by exact H k 0 (by omega)
  intro n
  induction n with
  | zero =>
    intro a ha
    obtain rfl : a = k := by omega
    exact dirF_hit hk hh
  | succ n ih => intro a ha; rw [dirF_miss (by omega) (hm a (by omega) (by omega))]; exact ih (a + 1) (by omega)
set_option maxHeartbeats 4000000 in
theorem refsteps_of (p : Nat) (S : Int → Int → Bool) (c s x y d : Int) (w : World)
    (HT : ∀ wx, Below w.heap.size w wx → Calls Tryd.prog 45 #[cel x y, .int .i64 d] wx fun e w' => e = .returned (.tuple #[cel (sX x y d) (sY x y d), .bool (sB x y d)]) ∧ Below wx.heap.size wx w')
    (HD : ∀ wx, Below w.heap.size w wx → Calls Tryd.prog 56 #[cel x y, .int .i64 d] wx fun e w' => e = .returned (sidesV x y d) ∧ Below wx.heap.size wx w')
    (HS : ∀ wx, Below w.heap.size w wx → ∀ x y, Calls Tryd.prog 36 #[ptr p, shv c s, cel x y] wx fun e w' => e = .returned (.bool (S x y)) ∧ Below wx.heap.size wx w') :
    Calls Tryd.prog 37 #[ptr p, shv c s, cel x y, .int .i64 d] w fun e w' => e = .returned (.bool (lg S x y d)) ∧ Below w.heap.size w w' := by
  have B2 := box2 w (.cells #[.int .i64 c, .int .i64 s] 37) (.cells #[.int .i64 x, .int .i64 y] 23)
  have S0 : Two ((w.alloc (.cells #[.int .i64 c, .int .i64 s] 37)).alloc (.cells #[.int .i64 x, .int .i64 y] 23)) w.heap.size c s := (Two.newAt rfl).alloc
  have C0 : Two ((w.alloc (.cells #[.int .i64 c, .int .i64 s] 37)).alloc (.cells #[.int .i64 x, .int .i64 y] 23)) (w.heap.size + 1) x y := Two.newAt (by simp)
  unfold sidesV at HD
  unfold lg
  obtain ⟨tx, htx⟩ : ∃ tx, sX x y d = tx := ⟨_, rfl⟩
  obtain ⟨ty, hty⟩ : ∃ ty, sY x y d = ty := ⟨_, rfl⟩
  obtain ⟨ax, hax⟩ : ∃ ax, siX x y d = ax := ⟨_, rfl⟩
  obtain ⟨ay, hay⟩ : ∃ ay, si0 x y d y = ay := ⟨_, rfl⟩
  obtain ⟨bx, hbx⟩ : ∃ bx, si0 x y d x = bx := ⟨_, rfl⟩
  obtain ⟨bY, hby⟩ : ∃ bY, siY x y d = bY := ⟨_, rfl⟩
  rw [htx, hty] at HT
  rw [hax, hay, hbx, hby] at HD
  rw [htx, hty, hax, hay, hbx, hby]
  clear htx hty hax hay hbx hby
  have HS' : ∀ wx (b : Bool) u v, Below w.heap.size w wx → S u v = b → Calls Tryd.prog 36 #[ptr p, shv c s, cel u v] wx fun e w' => e = .returned (.bool b) ∧ Below wx.heap.size wx w' := fun wx b u v hb he => he ▸ HS wx hb u v
  clear HS
  cases g1 : sB x y d
  · rw [g1] at HT
    go_enter Tryd.func37, Tryd.ntmps37
    go_wp2_with fail
    refine (HT _ B2).mono ?_
    rintro e w1 ⟨rfl, hb1⟩
    have HB1 := hide (bt B2 hb1)
    have S1 := hide (S0.kept hb1)
    have C1 := hide (C0.kept hb1)
    clear S0 C0 hb1
    have BX : Below w1.heap.size w1 (w1.alloc (.cells #[.int .i64 tx, .int .i64 ty] 23)) := box1 _ _
    have T2 : Two (w1.alloc (.cells #[.int .i64 tx, .int .i64 ty] 23)) w1.heap.size tx ty := Two.newAt rfl
    obtain ⟨w2, h2⟩ : ∃ w2, w1.alloc (.cells #[.int .i64 tx, .int .i64 ty] 23) = w2 := ⟨_, rfl⟩
    rw [h2] at BX T2
    have S2 := S1.out.kept BX
    have C2 := C1.out.kept BX
    have HB2 := hide (bt HB1.out BX)
    go_wp2_with fail
    clear h2
    go_ret
    exact ⟨ret_bool (by simp []), HB2.out⟩
  · rw [g1] at HT
    cases g2 : S x y
    · go_enter Tryd.func37, Tryd.ntmps37
      go_wp2_with fail
      refine (HT _ B2).mono ?_
      rintro e w1 ⟨rfl, hb1⟩
      have HB1 := hide (bt B2 hb1)
      have S1 := hide (S0.kept hb1)
      have C1 := hide (C0.kept hb1)
      clear S0 C0 hb1
      have BX : Below w1.heap.size w1 (w1.alloc (.cells #[.int .i64 tx, .int .i64 ty] 23)) := box1 _ _
      have T2 : Two (w1.alloc (.cells #[.int .i64 tx, .int .i64 ty] 23)) w1.heap.size tx ty := Two.newAt rfl
      obtain ⟨w2, h2⟩ : ∃ w2, w1.alloc (.cells #[.int .i64 tx, .int .i64 ty] 23) = w2 := ⟨_, rfl⟩
      rw [h2] at BX T2
      have S2 := S1.out.kept BX
      have C2 := C1.out.kept BX
      have HB2 := hide (bt HB1.out BX)
      obtain ⟨⟨c0, c1⟩, -, -⟩ := id C2
      obtain ⟨⟨s0, s1⟩, -, -⟩ := id S2
      go_wp2_with fail
      clear h2
      refine (HS' _ _ _ _ HB2.out g2).mono ?_
      rintro e w3 ⟨rfl, hb3⟩
      have HB3 := hide (bt HB2.out hb3)
      have S3 := S2.kept hb3
      have C3 := C2.kept hb3
      have T3 := T2.kept hb3
      clear hb3 c0 c1 s0 s1
      go_wp2_with fail
      go_ret
      exact ⟨ret_bool (by simp []), HB3.out⟩
    · cases g3 : S tx ty
      · go_enter Tryd.func37, Tryd.ntmps37
        go_wp2_with fail
        refine (HT _ B2).mono ?_
        rintro e w1 ⟨rfl, hb1⟩
        have HB1 := hide (bt B2 hb1)
        have S1 := hide (S0.kept hb1)
        have C1 := hide (C0.kept hb1)
        clear S0 C0 hb1
        have BX : Below w1.heap.size w1 (w1.alloc (.cells #[.int .i64 tx, .int .i64 ty] 23)) := box1 _ _
        have T2 : Two (w1.alloc (.cells #[.int .i64 tx, .int .i64 ty] 23)) w1.heap.size tx ty := Two.newAt rfl
        obtain ⟨w2, h2⟩ : ∃ w2, w1.alloc (.cells #[.int .i64 tx, .int .i64 ty] 23) = w2 := ⟨_, rfl⟩
        rw [h2] at BX T2
        have S2 := S1.out.kept BX
        have C2 := C1.out.kept BX
        have HB2 := hide (bt HB1.out BX)
        obtain ⟨⟨c0, c1⟩, -, -⟩ := id C2
        obtain ⟨⟨s0, s1⟩, -, -⟩ := id S2
        go_wp2_with fail
        clear h2
        refine (HS' _ _ _ _ HB2.out g2).mono ?_
        rintro e w3 ⟨rfl, hb3⟩
        have HB3 := hide (bt HB2.out hb3)
        have S3 := S2.kept hb3
        have C3 := C2.kept hb3
        have T3 := T2.kept hb3
        clear hb3 c0 c1 s0 s1
        obtain ⟨⟨t0, t1⟩, -, -⟩ := id T3
        obtain ⟨⟨s0, s1⟩, -, -⟩ := id S3
        go_wp2_with fail
        refine (HS' _ _ _ _ HB3.out g3).mono ?_
        rintro e w4 ⟨rfl, hb4⟩
        have HB4 := hide (bt HB3.out hb4)
        have S4 := S3.kept hb4
        have C4 := C3.kept hb4
        clear hb4 t0 t1 s0 s1
        go_wp2_with fail
        go_ret
        exact ⟨ret_bool (by simp []), HB4.out⟩
      · cases g4 : siB x y d
        · rw [g4] at HD
          go_enter Tryd.func37, Tryd.ntmps37
          go_wp2_with fail
          refine (HT _ B2).mono ?_
          rintro e w1 ⟨rfl, hb1⟩
          have HB1 := hide (bt B2 hb1)
          have S1 := hide (S0.kept hb1)
          have C1 := hide (C0.kept hb1)
          clear S0 C0 hb1
          have BX : Below w1.heap.size w1 (w1.alloc (.cells #[.int .i64 tx, .int .i64 ty] 23)) := box1 _ _
          have T2 : Two (w1.alloc (.cells #[.int .i64 tx, .int .i64 ty] 23)) w1.heap.size tx ty := Two.newAt rfl
          obtain ⟨w2, h2⟩ : ∃ w2, w1.alloc (.cells #[.int .i64 tx, .int .i64 ty] 23) = w2 := ⟨_, rfl⟩
          rw [h2] at BX T2
          have S2 := S1.out.kept BX
          have C2 := C1.out.kept BX
          have HB2 := hide (bt HB1.out BX)
          obtain ⟨⟨c0, c1⟩, -, -⟩ := id C2
          obtain ⟨⟨s0, s1⟩, -, -⟩ := id S2
          go_wp2_with fail
          clear h2
          refine (HS' _ _ _ _ HB2.out g2).mono ?_
          rintro e w3 ⟨rfl, hb3⟩
          have HB3 := hide (bt HB2.out hb3)
          have S3 := S2.kept hb3
          have C3 := C2.kept hb3
          have T3 := T2.kept hb3
          clear hb3 c0 c1 s0 s1
          obtain ⟨⟨t0, t1⟩, -, -⟩ := id T3
          obtain ⟨⟨s0, s1⟩, -, -⟩ := id S3
          go_wp2_with fail
          refine (HS' _ _ _ _ HB3.out g3).mono ?_
          rintro e w4 ⟨rfl, hb4⟩
          have HB4 := hide (bt HB3.out hb4)
          have S4 := S3.kept hb4
          have C4 := C3.kept hb4
          clear hb4 t0 t1 s0 s1
          obtain ⟨⟨c0, c1⟩, -, -⟩ := id C4
          go_wp2_with fail
          refine (HD _ HB4.out).mono ?_
          rintro e w5 ⟨rfl, hb5⟩
          have HB5 := hide (bt HB4.out hb5)
          have S5 := S4.kept hb5
          clear hb5 c0 c1
          have BZ : Below w5.heap.size w5 ((w5.alloc (.cells #[.int .i64 ax, .int .i64 ay] 23)).alloc (.cells #[.int .i64 bx, .int .i64 bY] 23)) := box2 _ _ _
          have TA : Two ((w5.alloc (.cells #[.int .i64 ax, .int .i64 ay] 23)).alloc (.cells #[.int .i64 bx, .int .i64 bY] 23)) w5.heap.size ax ay := (Two.newAt rfl).alloc
          have TB : Two ((w5.alloc (.cells #[.int .i64 ax, .int .i64 ay] 23)).alloc (.cells #[.int .i64 bx, .int .i64 bY] 23)) (w5.heap.size + 1) bx bY := Two.newAt (by simp)
          obtain ⟨w6, h6⟩ : ∃ w6, (w5.alloc (.cells #[.int .i64 ax, .int .i64 ay] 23)).alloc (.cells #[.int .i64 bx, .int .i64 bY] 23) = w6 := ⟨_, rfl⟩
          rw [h6] at BZ TA TB
          have S6 := S5.kept BZ
          have HB6 := hide (bt HB5.out BZ)
          go_wp2_with fail
          clear h6
          go_ret
          exact ⟨ret_bool (by simp []), HB6.out⟩
        · rw [g4] at HD
          cases g5 : S ax ay
          · go_enter Tryd.func37, Tryd.ntmps37
            go_wp2_with fail
            refine (HT _ B2).mono ?_
            rintro e w1 ⟨rfl, hb1⟩
            have HB1 := hide (bt B2 hb1)
            have S1 := hide (S0.kept hb1)
            have C1 := hide (C0.kept hb1)
            clear S0 C0 hb1
            have BX : Below w1.heap.size w1 (w1.alloc (.cells #[.int .i64 tx, .int .i64 ty] 23)) := box1 _ _
            have T2 : Two (w1.alloc (.cells #[.int .i64 tx, .int .i64 ty] 23)) w1.heap.size tx ty := Two.newAt rfl
            obtain ⟨w2, h2⟩ : ∃ w2, w1.alloc (.cells #[.int .i64 tx, .int .i64 ty] 23) = w2 := ⟨_, rfl⟩
            rw [h2] at BX T2
            have S2 := S1.out.kept BX
            have C2 := C1.out.kept BX
            have HB2 := hide (bt HB1.out BX)
            obtain ⟨⟨c0, c1⟩, -, -⟩ := id C2
            obtain ⟨⟨s0, s1⟩, -, -⟩ := id S2
            go_wp2_with fail
            clear h2
            refine (HS' _ _ _ _ HB2.out g2).mono ?_
            rintro e w3 ⟨rfl, hb3⟩
            have HB3 := hide (bt HB2.out hb3)
            have S3 := S2.kept hb3
            have C3 := C2.kept hb3
            have T3 := T2.kept hb3
            clear hb3 c0 c1 s0 s1
            obtain ⟨⟨t0, t1⟩, -, -⟩ := id T3
            obtain ⟨⟨s0, s1⟩, -, -⟩ := id S3
            go_wp2_with fail
            refine (HS' _ _ _ _ HB3.out g3).mono ?_
            rintro e w4 ⟨rfl, hb4⟩
            have HB4 := hide (bt HB3.out hb4)
            have S4 := S3.kept hb4
            have C4 := C3.kept hb4
            clear hb4 t0 t1 s0 s1
            obtain ⟨⟨c0, c1⟩, -, -⟩ := id C4
            go_wp2_with fail
            refine (HD _ HB4.out).mono ?_
            rintro e w5 ⟨rfl, hb5⟩
            have HB5 := hide (bt HB4.out hb5)
            have S5 := S4.kept hb5
            clear hb5 c0 c1
            have BZ : Below w5.heap.size w5 ((w5.alloc (.cells #[.int .i64 ax, .int .i64 ay] 23)).alloc (.cells #[.int .i64 bx, .int .i64 bY] 23)) := box2 _ _ _
            have TA : Two ((w5.alloc (.cells #[.int .i64 ax, .int .i64 ay] 23)).alloc (.cells #[.int .i64 bx, .int .i64 bY] 23)) w5.heap.size ax ay := (Two.newAt rfl).alloc
            have TB : Two ((w5.alloc (.cells #[.int .i64 ax, .int .i64 ay] 23)).alloc (.cells #[.int .i64 bx, .int .i64 bY] 23)) (w5.heap.size + 1) bx bY := Two.newAt (by simp)
            obtain ⟨w6, h6⟩ : ∃ w6, (w5.alloc (.cells #[.int .i64 ax, .int .i64 ay] 23)).alloc (.cells #[.int .i64 bx, .int .i64 bY] 23) = w6 := ⟨_, rfl⟩
            rw [h6] at BZ TA TB
            have S6 := S5.kept BZ
            have HB6 := hide (bt HB5.out BZ)
            obtain ⟨⟨a0, a1⟩, -, -⟩ := id TA
            obtain ⟨⟨s0, s1⟩, -, -⟩ := id S6
            go_wp2_with fail
            clear h6
            refine (HS' _ _ _ _ HB6.out g5).mono ?_
            rintro e w7 ⟨rfl, hb7⟩
            have HB7 := hide (bt HB6.out hb7)
            have S7 := S6.kept hb7
            have TB7 := TB.kept hb7
            clear hb7 a0 a1 s0 s1
            go_wp2_with fail
            go_ret
            exact ⟨ret_bool (by simp []), HB7.out⟩
          · go_enter Tryd.func37, Tryd.ntmps37
            go_wp2_with fail
            refine (HT _ B2).mono ?_
            rintro e w1 ⟨rfl, hb1⟩
            have HB1 := hide (bt B2 hb1)
            have S1 := hide (S0.kept hb1)
            have C1 := hide (C0.kept hb1)
            clear S0 C0 hb1
            have BX : Below w1.heap.size w1 (w1.alloc (.cells #[.int .i64 tx, .int .i64 ty] 23)) := box1 _ _
            have T2 : Two (w1.alloc (.cells #[.int .i64 tx, .int .i64 ty] 23)) w1.heap.size tx ty := Two.newAt rfl
            obtain ⟨w2, h2⟩ : ∃ w2, w1.alloc (.cells #[.int .i64 tx, .int .i64 ty] 23) = w2 := ⟨_, rfl⟩
            rw [h2] at BX T2
            have S2 := S1.out.kept BX
            have C2 := C1.out.kept BX
            have HB2 := hide (bt HB1.out BX)
            obtain ⟨⟨c0, c1⟩, -, -⟩ := id C2
            obtain ⟨⟨s0, s1⟩, -, -⟩ := id S2
            go_wp2_with fail
            clear h2
            refine (HS' _ _ _ _ HB2.out g2).mono ?_
            rintro e w3 ⟨rfl, hb3⟩
            have HB3 := hide (bt HB2.out hb3)
            have S3 := S2.kept hb3
            have C3 := C2.kept hb3
            have T3 := T2.kept hb3
            clear hb3 c0 c1 s0 s1
            obtain ⟨⟨t0, t1⟩, -, -⟩ := id T3
            obtain ⟨⟨s0, s1⟩, -, -⟩ := id S3
            go_wp2_with fail
            refine (HS' _ _ _ _ HB3.out g3).mono ?_
            rintro e w4 ⟨rfl, hb4⟩
            have HB4 := hide (bt HB3.out hb4)
            have S4 := S3.kept hb4
            have C4 := C3.kept hb4
            clear hb4 t0 t1 s0 s1
            obtain ⟨⟨c0, c1⟩, -, -⟩ := id C4
            go_wp2_with fail
            refine (HD _ HB4.out).mono ?_
            rintro e w5 ⟨rfl, hb5⟩
            have HB5 := hide (bt HB4.out hb5)
            have S5 := S4.kept hb5
            clear hb5 c0 c1
            have BZ : Below w5.heap.size w5 ((w5.alloc (.cells #[.int .i64 ax, .int .i64 ay] 23)).alloc (.cells #[.int .i64 bx, .int .i64 bY] 23)) := box2 _ _ _
            have TA : Two ((w5.alloc (.cells #[.int .i64 ax, .int .i64 ay] 23)).alloc (.cells #[.int .i64 bx, .int .i64 bY] 23)) w5.heap.size ax ay := (Two.newAt rfl).alloc
            have TB : Two ((w5.alloc (.cells #[.int .i64 ax, .int .i64 ay] 23)).alloc (.cells #[.int .i64 bx, .int .i64 bY] 23)) (w5.heap.size + 1) bx bY := Two.newAt (by simp)
            obtain ⟨w6, h6⟩ : ∃ w6, (w5.alloc (.cells #[.int .i64 ax, .int .i64 ay] 23)).alloc (.cells #[.int .i64 bx, .int .i64 bY] 23) = w6 := ⟨_, rfl⟩
            rw [h6] at BZ TA TB
            have S6 := S5.kept BZ
            have HB6 := hide (bt HB5.out BZ)
            obtain ⟨⟨a0, a1⟩, -, -⟩ := id TA
            obtain ⟨⟨s0, s1⟩, -, -⟩ := id S6
            go_wp2_with fail
            clear h6
            refine (HS' _ _ _ _ HB6.out g5).mono ?_
            rintro e w7 ⟨rfl, hb7⟩
            have HB7 := hide (bt HB6.out hb7)
            have S7 := S6.kept hb7
            have TB7 := TB.kept hb7
            clear hb7 a0 a1 s0 s1
            obtain ⟨⟨b0, b1⟩, -, -⟩ := id TB7
            obtain ⟨⟨s0, s1⟩, -, -⟩ := id S7
            go_wp2_with fail
            refine (HS' _ _ _ _ HB7.out rfl).mono ?_
            rintro e w8 ⟨rfl, hb8⟩
            have HB8 := hide (bt HB7.out hb8)
            clear hb8 b0 b1 s0 s1
            go_wp2_with fail
            go_ret
            exact ⟨ret_bool (by simp []), HB8.out⟩
/-- The slice v, wherever it begins, reads as the cells P. -/
def CeR (w : World) (v : Value) (P : List (Int × Int)) : Prop :=
  ∃ a cap, v = .slice a P.length cap ∧ P.length ≤ cap ∧ P.length ≤ maxLen ∧ (a = none → P.length = 0 ∧ cap = 0) ∧ ∀ (i : Nat) q, P[i]? = some q → ∃ g o, a = some ⟨g, o, none⟩ ∧ g < w.heap.size ∧ w.cell? ⟨g, o + i * 2, none⟩ = some (.int .i64 q.1) ∧ w.cell? ⟨g, o + i * 2 + 1, none⟩ = some (.int .i64 q.2)
theorem CeR.kept {w w' : World} {v : Value} {P : List (Int × Int)} (h : CeR w v P) (hb : Below w.heap.size w w') : CeR w' v P := by
  obtain ⟨a, cap, e, h1, h2, h3, h4⟩ := h
  refine ⟨a, cap, e, h1, h2, h3, fun i x hx => ?_⟩
  obtain ⟨g, o, e1, e2, e3, e4⟩ := h4 i x hx
  exact ⟨g, o, e1, Nat.lt_of_lt_of_le e2 hb.size, (hb.cell (p := ⟨g, _, none⟩) e2).trans e3, (hb.cell (p := ⟨g, _, none⟩) e2).trans e4⟩
def costF : Int → Int → List (Int × Int) → Int → Int
  | _, _, [], n => n
  | x, y, q :: r, n => if dirN x y q.1 q.2 < 0 then -1 else costF q.1 q.2 r (n + co (dirN x y q.1 q.2))
def costV (x y : Int) (P : List (Int × Int)) : Int := if 16384 < P.length then -1 else costF x y P 0
theorem co_range (d : Int) : 0 ≤ co d ∧ co d ≤ 14 := by
  unfold co
  split
  · split <;> omega
  · omega
theorem drop_cons' {P : List (Int × Int)} {k : Nat} {q : Int × Int} (h : P[k]? = some q) : P.drop k = q :: P.drop (k + 1) := by
  obtain ⟨hl, hq⟩ := List.getElem?_eq_some_iff.1 h
  rw [List.drop_eq_getElem_cons hl, hq]
theorem refdir_is {x y tx ty d : Int} (w : World) (h : dirN x y tx ty = d) : Calls Tryd.prog 29 #[.agg #[.int .i64 x, .int .i64 y], .agg #[.int .i64 tx, .int .i64 ty]] w fun e w' => e = .returned (.int .i64 d) ∧ Below w.heap.size w w' := by subst h; exact refdir_any x y tx ty w
set_option maxRecDepth 100000 in
set_option maxHeartbeats 4000000 in
theorem refpcost_any (x y : Int) (v : Value) (P : List (Int × Int)) (w : World) (hv : CeR w v P) :
    Calls Tryd.prog 13 #[cel x y, v] w fun e w' => e = .returned (.int .i64 (costV x y P)) ∧ Below w.heap.size w w' := by
  have hv' := hv
  obtain ⟨a, cap, rfl, hcap, hmax, -, -⟩ := hv'
  have hl63 : (0 : Int) ≤ (P.length : Nat) ∧ ((P.length : Nat) : Int) ≤ 9223372036854775807 := by
    have : P.length ≤ 9223372036854775807 := hmax
    omega
  have B0 : Below w.heap.size w (w.alloc (.cells #[.int .i64 x, .int .i64 y] 23)) := box1 _ _
  have T0 : Two (w.alloc (.cells #[.int .i64 x, .int .i64 y] 23)) w.heap.size x y := Two.newAt rfl
  obtain ⟨X, hX⟩ : ∃ X, w.alloc (.cells #[.int .i64 x, .int .i64 y] 23) = X := ⟨_, rfl⟩
  rw [hX] at B0 T0
  by_cases hlong : (16384 : Int) < (P.length : Nat)
  · rw [show costV x y P = -1 by rw [costV, if_pos (by omega)]]
    go_enter Tryd.func13, Tryd.ntmps13
    go_wp2_with fail
    go_ret
    exact ⟨rfl, B0⟩
  obtain ⟨c, hc⟩ : ∃ c, costV x y P = c := ⟨_, rfl⟩
  have hc0 : costF x y P 0 = c := by rw [← hc, costV, if_neg (by omega)]
  rw [hc]
  clear hc
  go_enter Tryd.func13, Tryd.ntmps13
  go_wp2_with fail
  clear hX
  go_loopw [5, 6] (fun s5 s6 wr => ∃ (k : Nat) (fx fy n : Int), k ≤ P.length ∧ s6 = .int .i64 k ∧ s5 = .int .i64 n ∧ (0 ≤ n ∧ n ≤ 14 * k) ∧ costF fx fy (P.drop k) n = c ∧ Two wr w.heap.size fx fy ∧ Below w.heap.size w wr) (fun s5 s6 _ => P.length - (intOf s6).toNat)
  case atStart => exact ⟨0, x, y, 0, Nat.zero_le _, rfl, rfl, by omega, by simpa using hc0, T0, B0⟩
  case round =>
    obtain ⟨k, fx, fy, n, hk, rfl, rfl, hn, hco, hT, hB⟩ := hrel
    by_cases hlt : k < P.length
    · obtain ⟨q, hq⟩ : ∃ q, P[k]? = some q := ⟨_, List.getElem?_eq_getElem hlt⟩
      obtain ⟨g, o, hga, hgl, c0, c1⟩ : ∃ g o, a = some ⟨g, o, none⟩ ∧ g < wr.heap.size ∧ wr.cell? ⟨g, o + k * 2, none⟩ = some (.int .i64 q.1) ∧ wr.cell? ⟨g, o + k * 2 + 1, none⟩ = some (.int .i64 q.2) := by
        obtain ⟨a', cap', he', _, _, _, hform⟩ := hv.kept hB
        obtain ⟨g', o', hgg, h0, e1, e2⟩ := hform k q hq
        injection he' with h1 h2 h3
        exact ⟨g', o', h1.trans hgg, h0, e1, e2⟩
      subst hga
      rw [drop_cons' hq, costF] at hco
      have hki : (k : Int) < (P.length : Nat) := by omega
      have l0 : ∀ n : Lat wr, n.w.cell? ⟨g, o + k * 2, none⟩ = some (.int .i64 q.1) := fun n => (n.h.cell (p := ⟨g, _, none⟩) hgl).trans c0
      have l1 : ∀ n : Lat wr, n.w.cell? ⟨g, o + k * 2 + 1, none⟩ = some (.int .i64 q.2) := fun n => (n.h.cell (p := ⟨g, _, none⟩) hgl).trans c1
      obtain ⟨f0, f1⟩ := hT.lat
      have hne := lat_some wr
      obtain ⟨d, hd⟩ : ∃ d, dirN fx fy q.1 q.2 = d := ⟨_, rfl⟩
      have HD := hide hd
      rw [hd] at hco
      have hrg := co_range d
      clear hd c0 c1
      go_wp2_with fail
      refine wp_region_lat (by kernel_rfl) (by kernel_rfl) ?_
      repeat (go_big_quiet_step (first | (go_at_call 29; exact calls_lat (refdir_is _ HD.out))))
      refine wpQuiet_nil ?_
      rintro _ ⟨m, rfl⟩
      have TF2 := hT.kept m.h
      have HB2 := hide (bt hB m.h)
      have t0 := l0 m
      have t1 := l1 m
      clear HD l0 l1 f0 f1 hT hB
      by_cases hneg : d < 0
      · rw [if_pos hneg] at hco
        go_wp2_with fail
        go_ret
        exact ⟨ret_int hco, HB2.out⟩
      · rw [if_neg hneg] at hco
        obtain ⟨⟨f0, f1⟩, ⟨f2, f3⟩, fz⟩ := id TF2
        have hw : IntKind.i64.wrap (n + co d) = n + co d := by rw [IntKind.wrap_i64]; omega
        go_wp2_with (go_at_call 30; refine (refcost_any _ _).mono ?_; rintro e w' ⟨rfl, rfl⟩)
        go_roundw
        case rel =>
          refine ⟨k + 1, q.1, q.2, n + co d, by omega, by go_num, rfl, by omega, hco, ?_, ?_⟩
          · exact Two.set TF2
          · exact (HB2.out.setCell (p := ⟨w.heap.size, 0, none⟩) (by simp) _).setCell (p := ⟨w.heap.size, 1, none⟩) (by simp) _
        case measure => simp [intOf]; omega
    · obtain rfl : k = P.length := by omega
      rw [List.drop_length, costF] at hco
      have hki : ¬ ((P.length : Nat) : Int) < (P.length : Nat) := by omega
      go_wp2_with fail
      go_ret
      exact ⟨rfl, hB⟩
def legF (S : Int → Int → Bool) : Int → Int → List (Int × Int) → Bool
  | _, _, [] => true
  | x, y, q :: r => lg S x y (dirN x y q.1 q.2) && legF S q.1 q.2 r
def legV (S : Int → Int → Bool) (x y : Int) (P : List (Int × Int)) : Bool := S x y && legF S x y P
theorem lg_neg {S : Int → Int → Bool} {x y d : Int} (h : d < 0) : lg S x y d = false := by
  have h1 : isD d = false := (isD_not d).2 (by omega)
  have : sB x y d = false := sB_no1 h1
  simp [lg, this]
set_option maxRecDepth 100000 in
set_option maxHeartbeats 4000000 in
theorem reflegal_of (p : Nat) (S : Int → Int → Bool) (c s x y : Int) (v : Value) (P : List (Int × Int)) (w : World) (hv : CeR w v P)
    (HS : ∀ wx, Below w.heap.size w wx → ∀ x y, Calls Tryd.prog 36 #[ptr p, shv c s, cel x y] wx fun e w' => e = .returned (.bool (S x y)) ∧ Below wx.heap.size wx w')
    (HT : ∀ wx, Below w.heap.size w wx → ∀ x y d, Calls Tryd.prog 37 #[ptr p, shv c s, cel x y, .int .i64 d] wx fun e w' => e = .returned (.bool (lg S x y d)) ∧ Below wx.heap.size wx w') :
    Calls Tryd.prog 19 #[ptr p, shv c s, cel x y, v] w fun e w' => e = .returned (.bool (legV S x y P)) ∧ Below w.heap.size w w' := by
  have hv' := hv
  obtain ⟨a, cap, rfl, hcap, hmax, -, -⟩ := hv'
  have hl63 : (0 : Int) ≤ (P.length : Nat) ∧ ((P.length : Nat) : Int) ≤ 9223372036854775807 := by
    have : P.length ≤ 9223372036854775807 := hmax
    omega
  have B0 := box2 w (.cells #[.int .i64 c, .int .i64 s] 37) (.cells #[.int .i64 x, .int .i64 y] 23)
  have S0 : Two ((w.alloc (.cells #[.int .i64 c, .int .i64 s] 37)).alloc (.cells #[.int .i64 x, .int .i64 y] 23)) w.heap.size c s := (Two.newAt rfl).alloc
  have C0 : Two ((w.alloc (.cells #[.int .i64 c, .int .i64 s] 37)).alloc (.cells #[.int .i64 x, .int .i64 y] 23)) (w.heap.size + 1) x y := Two.newAt (by simp)
  obtain ⟨X, hX⟩ : ∃ X, (w.alloc (.cells #[.int .i64 c, .int .i64 s] 37)).alloc (.cells #[.int .i64 x, .int .i64 y] 23) = X := ⟨_, rfl⟩
  rw [hX] at B0 S0 C0
  have HT' : Hid (∀ wx (b : Bool) u v d, Below w.heap.size w wx → lg S u v d = b → Calls Tryd.prog 37 #[ptr p, shv c s, cel u v, .int .i64 d] wx fun e w' => e = .returned (.bool b) ∧ Below wx.heap.size wx w') := hide fun wx b u v d hb he => he ▸ HT wx hb u v d
  have HS' := hide (HS X B0 x y)
  obtain ⟨⟨s0, s1⟩, -, -⟩ := id S0
  obtain ⟨⟨c0, c1⟩, -, -⟩ := id C0
  unfold legV
  clear HT HS
  cases g : S x y
  · rw [g] at HS'
    go_enter Tryd.func19, Tryd.ntmps19
    go_wp2_with fail
    refine HS'.out.mono ?_
    rintro e w1 ⟨rfl, hb1⟩
    have HB1 := hide (bt B0 hb1)
    clear hX s0 s1 c0 c1 hb1
    go_wp2_with fail
    go_ret
    exact ⟨rfl, HB1.out⟩
  · rw [g] at HS'
    obtain ⟨r, hr⟩ : ∃ r, (true && legF S x y P) = r := ⟨_, rfl⟩
    have hc0 : legF S x y P = r := by rw [← hr, Bool.true_and]
    rw [hr]
    clear hr
    go_enter Tryd.func19, Tryd.ntmps19
    go_wp2_with fail
    refine HS'.out.mono ?_
    rintro e w1 ⟨rfl, hb1⟩
    have S1 := S0.kept hb1
    have C1 := C0.kept hb1
    have B1 := bt B0 hb1
    clear hX s0 s1 c0 c1 hb1 S0 C0 B0 HS'
    go_wp2_with fail
    go_loopw [9] (fun s18 wr => ∃ (k : Nat) (fx fy : Int), k ≤ P.length ∧ s18 = .int .i64 k ∧ legF S fx fy (P.drop k) = r ∧ Two wr (w.heap.size + 1) fx fy ∧ Two wr w.heap.size c s ∧ Below w.heap.size w wr) (fun s18 _ => P.length - (intOf s18).toNat)
    case atStart => exact ⟨0, x, y, Nat.zero_le _, rfl, by simpa using hc0, C1, S1, B1⟩
    case round =>
      obtain ⟨k, fx, fy, hk, rfl, hco, hT, hS, hB⟩ := hrel
      by_cases hlt : k < P.length
      · obtain ⟨q, hq⟩ : ∃ q, P[k]? = some q := ⟨_, List.getElem?_eq_getElem hlt⟩
        obtain ⟨g, o, hga, hgl, c0, c1⟩ : ∃ g o, a = some ⟨g, o, none⟩ ∧ g < wr.heap.size ∧ wr.cell? ⟨g, o + k * 2, none⟩ = some (.int .i64 q.1) ∧ wr.cell? ⟨g, o + k * 2 + 1, none⟩ = some (.int .i64 q.2) := by
          obtain ⟨a', cap', he', _, _, _, hform⟩ := hv.kept hB
          obtain ⟨g', o', hgg, h0, e1, e2⟩ := hform k q hq
          injection he' with h1 h2 h3
          exact ⟨g', o', h1.trans hgg, h0, e1, e2⟩
        subst hga
        rw [drop_cons' hq, legF] at hco
        have hki : (k : Int) < (P.length : Nat) := by omega
        have l0 : ∀ n : Lat wr, n.w.cell? ⟨g, o + k * 2, none⟩ = some (.int .i64 q.1) := fun n => (n.h.cell (p := ⟨g, _, none⟩) hgl).trans c0
        have l1 : ∀ n : Lat wr, n.w.cell? ⟨g, o + k * 2 + 1, none⟩ = some (.int .i64 q.2) := fun n => (n.h.cell (p := ⟨g, _, none⟩) hgl).trans c1
        obtain ⟨f0, f1⟩ := hT.lat
        have hne := lat_some wr
        obtain ⟨d, hd⟩ : ∃ d, dirN fx fy q.1 q.2 = d := ⟨_, rfl⟩
        have HDd := hide hd
        rw [hd] at hco
        have HCO := hide hco
        clear hd c0 c1 hco
        go_wp2_with fail
        refine wp_region_lat (by kernel_rfl) (by kernel_rfl) ?_
        repeat (go_big_quiet_step (first | (go_at_call 29; exact calls_lat (refdir_is _ HDd.out))))
        refine wpQuiet_nil ?_
        rintro _ ⟨m, rfl⟩
        have TF2 := hT.kept m.h
        have TS2 := hS.kept m.h
        have HB2 := hide (bt hB m.h)
        have t0 := l0 m
        have t1 := l1 m
        clear HDd l0 l1 f0 f1 hT hS hB
        by_cases hneg : d < 0
        · have hF := HCO.out
          rw [lg_neg hneg, Bool.false_and] at hF
          have HF := hide hF
          clear hF
          go_wp2_with fail
          go_ret
          exact ⟨ret_bool HF.out, HB2.out⟩
        · obtain ⟨⟨f0, f1⟩, -, -⟩ := id TF2
          obtain ⟨⟨s0, s1⟩, -, -⟩ := id TS2
          cases hlg : lg S fx fy d
          · have hF := HCO.out
            rw [hlg, Bool.false_and] at hF
            have HF := hide hF
            have HLG := hide hlg
            clear hF hlg
            go_wp2_with fail
            refine (HT'.out _ _ _ _ _ HB2.out HLG.out).mono ?_
            rintro e w3 ⟨rfl, hb3⟩
            have HB3 := hide (bt HB2.out hb3)
            clear f0 f1 s0 s1 t0 t1 hb3
            go_wp2_with fail
            go_ret
            exact ⟨ret_bool HF.out, HB3.out⟩
          · have hF := HCO.out
            rw [hlg, Bool.true_and] at hF
            have HF := hide hF
            have HLG := hide hlg
            clear hF hlg
            go_wp2_with fail
            refine (HT'.out _ _ _ _ _ HB2.out HLG.out).mono ?_
            rintro e w3 ⟨rfl, hb3⟩
            have HB3 := hide (bt HB2.out hb3)
            have TF3 := TF2.kept hb3
            have TS3 := TS2.kept hb3
            have u0 := (hb3.cell (p := ⟨g, o + k * 2, none⟩) (World.block_lt_of_cell? _ _ t0)).trans t0
            have u1 := (hb3.cell (p := ⟨g, o + k * 2 + 1, none⟩) (World.block_lt_of_cell? _ _ t1)).trans t1
            obtain ⟨⟨g0, g1⟩, ⟨g2, g3⟩, gz⟩ := id TF3
            clear f0 f1 s0 s1 t0 t1 hb3
            go_wp2_with fail
            go_roundw
            case rel =>
              refine ⟨k + 1, q.1, q.2, by omega, by go_num, HF.out, Two.set TF3, TS3.other (by omega), ?_⟩
              exact (HB3.out.setCell (p := ⟨w.heap.size + 1, 0, none⟩) (by simp) _).setCell (p := ⟨w.heap.size + 1, 1, none⟩) (by simp) _
            case measure => simp [intOf]; omega
      · obtain rfl : k = P.length := by omega
        rw [List.drop_length, legF] at hco
        have HCO := hide hco
        clear hco
        have hki : ¬ ((P.length : Nat) : Int) < (P.length : Nat) := by omega
        go_wp2_with fail
        go_ret
        exact ⟨ret_bool HCO.out, hB⟩
end Go.Proofs.YtekpamilcpeanaaDoor
