/-
  Which steps are legal, by the package.
-/
import Derived.Test.YtekpamilcpeanaaDoorAwake
import Derived.Test.YtekpamilcpeanaaDoorSides
import Derived.Test.YtekpamilcpeanaaDoorGnd
namespace Go.Proofs.YtekpamilcpeanaaDoor
open Go.RowKit
set_option linter.unusedVariables false
set_option linter.unusedSimpArgs false
set_option maxHeartbeats 4000000 in
theorem steps_of (p : Nat) (S : Int → Int → Bool) (c s x y d : Int) (w : World)
    (HT : ∀ wx, Below w.heap.size w wx → Calls Tryd.prog 57 #[cel x y, .int .i64 d] wx fun e w' => e = .returned (.tuple #[cel (sX x y d) (sY x y d), .bool (sB x y d)]) ∧ Below wx.heap.size wx w')
    (HD : ∀ wx, Below w.heap.size w wx → Calls Tryd.prog 74 #[cel x y, .int .i64 d] wx fun e w' => e = .returned (sidesV x y d) ∧ Below wx.heap.size wx w')
    (HS : ∀ wx, Below w.heap.size w wx → ∀ x y, Calls Tryd.prog 47 #[ptr p, shv c s, cel x y] wx fun e w' => e = .returned (.bool (S x y)) ∧ Below wx.heap.size wx w') :
    Calls Tryd.prog 48 #[ptr p, shv c s, cel x y, .int .i64 d] w fun e w' => e = .returned (.bool (lg S x y d)) ∧ Below w.heap.size w w' := by
  have B2 := box2 w (.cells #[.int .i64 c, .int .i64 s] 37) (.cells #[.int .i64 x, .int .i64 y] 23)
  have S0 : Two ((w.alloc (.cells #[.int .i64 c, .int .i64 s] 37)).alloc (.cells #[.int .i64 x, .int .i64 y] 23)) w.heap.size c s := (Two.newAt rfl).alloc
  have C0 : Two ((w.alloc (.cells #[.int .i64 c, .int .i64 s] 37)).alloc (.cells #[.int .i64 x, .int .i64 y] 23)) (w.heap.size + 1) x y := Two.newAt (by simp)
  unfold sidesV at HD
  unfold lg
  obtain ⟨tx, htx⟩ : ∃ tx, sX x y d = tx := ⟨_, rfl⟩
  obtain ⟨ty, hty⟩ : ∃ ty, sY x y d = ty := ⟨_, rfl⟩
  obtain ⟨ax, hax⟩ : ∃ ax, siX x y d = ax := ⟨_, rfl⟩
  obtain ⟨ay, hay⟩ : ∃ ay, si0 x y d y = ay := ⟨_, rfl⟩
  obtain ⟨bx, hbx⟩ : ∃ bx, si0 x y d x = bx := ⟨_, rfl⟩
  obtain ⟨bY, hby⟩ : ∃ bY, siY x y d = bY := ⟨_, rfl⟩
  rw [htx, hty] at HT
  rw [hax, hay, hbx, hby] at HD
  rw [htx, hty, hax, hay, hbx, hby]
  clear htx hty hax hay hbx hby
  have HS' : ∀ wx (b : Bool) u v, Below w.heap.size w wx → S u v = b → Calls Tryd.prog 47 #[ptr p, shv c s, cel u v] wx fun e w' => e = .returned (.bool b) ∧ Below wx.heap.size wx w' := fun wx b u v hb he => he ▸ HS wx hb u v
  clear HS
  cases g1 : sB x y d
  · rw [g1] at HT
    go_enter Tryd.func48, Tryd.ntmps48
    go_wp2_with fail
    refine (HT _ B2).mono ?_
    rintro e w1 ⟨rfl, hb1⟩
    have HB1 := hide (bt B2 hb1)
    have S1 := hide (S0.kept hb1)
    have C1 := hide (C0.kept hb1)
    clear S0 C0 hb1
    have BX : Below w1.heap.size w1 (w1.alloc (.cells #[.int .i64 tx, .int .i64 ty] 23)) := box1 _ _
    have T2 : Two (w1.alloc (.cells #[.int .i64 tx, .int .i64 ty] 23)) w1.heap.size tx ty := Two.newAt rfl
    obtain ⟨w2, h2⟩ : ∃ w2, w1.alloc (.cells #[.int .i64 tx, .int .i64 ty] 23) = w2 := ⟨_, rfl⟩
    rw [h2] at BX T2
    have S2 := S1.out.kept BX
    have C2 := C1.out.kept BX
    have HB2 := hide (bt HB1.out BX)
    go_wp2_with fail
    clear h2
    go_ret
    exact ⟨ret_bool (by simp []), HB2.out⟩
  · rw [g1] at HT
    cases g2 : S x y
    · go_enter Tryd.func48, Tryd.ntmps48
      go_wp2_with fail
      refine (HT _ B2).mono ?_
      rintro e w1 ⟨rfl, hb1⟩
      have HB1 := hide (bt B2 hb1)
      have S1 := hide (S0.kept hb1)
      have C1 := hide (C0.kept hb1)
      clear S0 C0 hb1
      have BX : Below w1.heap.size w1 (w1.alloc (.cells #[.int .i64 tx, .int .i64 ty] 23)) := box1 _ _
      have T2 : Two (w1.alloc (.cells #[.int .i64 tx, .int .i64 ty] 23)) w1.heap.size tx ty := Two.newAt rfl
      obtain ⟨w2, h2⟩ : ∃ w2, w1.alloc (.cells #[.int .i64 tx, .int .i64 ty] 23) = w2 := ⟨_, rfl⟩
      rw [h2] at BX T2
      have S2 := S1.out.kept BX
      have C2 := C1.out.kept BX
      have HB2 := hide (bt HB1.out BX)
      obtain ⟨⟨c0, c1⟩, -, -⟩ := id C2
      obtain ⟨⟨s0, s1⟩, -, -⟩ := id S2
      go_wp2_with fail
      clear h2
      refine (HS' _ _ _ _ HB2.out g2).mono ?_
      rintro e w3 ⟨rfl, hb3⟩
      have HB3 := hide (bt HB2.out hb3)
      have S3 := S2.kept hb3
      have C3 := C2.kept hb3
      have T3 := T2.kept hb3
      clear hb3 c0 c1 s0 s1
      go_wp2_with fail
      go_ret
      exact ⟨ret_bool (by simp []), HB3.out⟩
    · cases g3 : S tx ty
      · go_enter Tryd.func48, Tryd.ntmps48
        go_wp2_with fail
        refine (HT _ B2).mono ?_
        rintro e w1 ⟨rfl, hb1⟩
        have HB1 := hide (bt B2 hb1)
        have S1 := hide (S0.kept hb1)
        have C1 := hide (C0.kept hb1)
        clear S0 C0 hb1
        have BX : Below w1.heap.size w1 (w1.alloc (.cells #[.int .i64 tx, .int .i64 ty] 23)) := box1 _ _
        have T2 : Two (w1.alloc (.cells #[.int .i64 tx, .int .i64 ty] 23)) w1.heap.size tx ty := Two.newAt rfl
        obtain ⟨w2, h2⟩ : ∃ w2, w1.alloc (.cells #[.int .i64 tx, .int .i64 ty] 23) = w2 := ⟨_, rfl⟩
        rw [h2] at BX T2
        have S2 := S1.out.kept BX
        have C2 := C1.out.kept BX
        have HB2 := hide (bt HB1.out BX)
        obtain ⟨⟨c0, c1⟩, -, -⟩ := id C2
        obtain ⟨⟨s0, s1⟩, -, -⟩ := id S2
        go_wp2_with fail
        clear h2
        refine (HS' _ _ _ _ HB2.out g2).mono ?_
        rintro e w3 ⟨rfl, hb3⟩
        have HB3 := hide (bt HB2.out hb3)
        have S3 := S2.kept hb3
        have C3 := C2.kept hb3
        have T3 := T2.kept hb3
        clear hb3 c0 c1 s0 s1
        obtain ⟨⟨t0, t1⟩, -, -⟩ := id T3
        obtain ⟨⟨s0, s1⟩, -, -⟩ := id S3
        go_wp2_with fail
        refine (HS' _ _ _ _ HB3.out g3).mono ?_
        rintro e w4 ⟨rfl, hb4⟩
        have HB4 := hide (bt HB3.out hb4)
        have S4 := S3.kept hb4
        have C4 := C3.kept hb4
        clear hb4 t0 t1 s0 s1
        go_wp2_with fail
        go_ret
        exact ⟨ret_bool (by simp []), HB4.out⟩
      · cases g4 : siB x y d
        · rw [g4] at HD
          go_enter Tryd.func48, Tryd.ntmps48
          go_wp2_with fail
          refine (HT _ B2).mono ?_
          rintro e w1 ⟨rfl, hb1⟩
          have HB1 := hide (bt B2 hb1)
          have S1 := hide (S0.kept hb1)
          have C1 := hide (C0.kept hb1)
          clear S0 C0 hb1
          have BX : Below w1.heap.size w1 (w1.alloc (.cells #[.int .i64 tx, .int .i64 ty] 23)) := box1 _ _
          have T2 : Two (w1.alloc (.cells #[.int .i64 tx, .int .i64 ty] 23)) w1.heap.size tx ty := Two.newAt rfl
          obtain ⟨w2, h2⟩ : ∃ w2, w1.alloc (.cells #[.int .i64 tx, .int .i64 ty] 23) = w2 := ⟨_, rfl⟩
          rw [h2] at BX T2
          have S2 := S1.out.kept BX
          have C2 := C1.out.kept BX
          have HB2 := hide (bt HB1.out BX)
          obtain ⟨⟨c0, c1⟩, -, -⟩ := id C2
          obtain ⟨⟨s0, s1⟩, -, -⟩ := id S2
          go_wp2_with fail
          clear h2
          refine (HS' _ _ _ _ HB2.out g2).mono ?_
          rintro e w3 ⟨rfl, hb3⟩
          have HB3 := hide (bt HB2.out hb3)
          have S3 := S2.kept hb3
          have C3 := C2.kept hb3
          have T3 := T2.kept hb3
          clear hb3 c0 c1 s0 s1
          obtain ⟨⟨t0, t1⟩, -, -⟩ := id T3
          obtain ⟨⟨s0, s1⟩, -, -⟩ := id S3
          go_wp2_with fail
          refine (HS' _ _ _ _ HB3.out g3).mono ?_
          rintro e w4 ⟨rfl, hb4⟩
          have HB4 := hide (bt HB3.out hb4)
          have S4 := S3.kept hb4
          have C4 := C3.kept hb4
          clear hb4 t0 t1 s0 s1
          obtain ⟨⟨c0, c1⟩, -, -⟩ := id C4
          go_wp2_with fail
          refine (HD _ HB4.out).mono ?_
          rintro e w5 ⟨rfl, hb5⟩
          have HB5 := hide (bt HB4.out hb5)
          have S5 := S4.kept hb5
          clear hb5 c0 c1
          have BZ : Below w5.heap.size w5 ((w5.alloc (.cells #[.int .i64 ax, .int .i64 ay] 23)).alloc (.cells #[.int .i64 bx, .int .i64 bY] 23)) := box2 _ _ _
          have TA : Two ((w5.alloc (.cells #[.int .i64 ax, .int .i64 ay] 23)).alloc (.cells #[.int .i64 bx, .int .i64 bY] 23)) w5.heap.size ax ay := (Two.newAt rfl).alloc
          have TB : Two ((w5.alloc (.cells #[.int .i64 ax, .int .i64 ay] 23)).alloc (.cells #[.int .i64 bx, .int .i64 bY] 23)) (w5.heap.size + 1) bx bY := Two.newAt (by simp)
          obtain ⟨w6, h6⟩ : ∃ w6, (w5.alloc (.cells #[.int .i64 ax, .int .i64 ay] 23)).alloc (.cells #[.int .i64 bx, .int .i64 bY] 23) = w6 := ⟨_, rfl⟩
          rw [h6] at BZ TA TB
          have S6 := S5.kept BZ
          have HB6 := hide (bt HB5.out BZ)
          go_wp2_with fail
          clear h6
          go_ret
          exact ⟨ret_bool (by simp []), HB6.out⟩
        · rw [g4] at HD
          cases g5 : S ax ay
          · go_enter Tryd.func48, Tryd.ntmps48
            go_wp2_with fail
            refine (HT _ B2).mono ?_
            rintro e w1 ⟨rfl, hb1⟩
            have HB1 := hide (bt B2 hb1)
            have S1 := hide (S0.kept hb1)
            have C1 := hide (C0.kept hb1)
            clear S0 C0 hb1
            have BX : Below w1.heap.size w1 (w1.alloc (.cells #[.int .i64 tx, .int .i64 ty] 23)) := box1 _ _
            have T2 : Two (w1.alloc (.cells #[.int .i64 tx, .int .i64 ty] 23)) w1.heap.size tx ty := Two.newAt rfl
            obtain ⟨w2, h2⟩ : ∃ w2, w1.alloc (.cells #[.int .i64 tx, .int .i64 ty] 23) = w2 := ⟨_, rfl⟩
            rw [h2] at BX T2
            have S2 := S1.out.kept BX
            have C2 := C1.out.kept BX
            have HB2 := hide (bt HB1.out BX)
            obtain ⟨⟨c0, c1⟩, -, -⟩ := id C2
            obtain ⟨⟨s0, s1⟩, -, -⟩ := id S2
            go_wp2_with fail
            clear h2
            refine (HS' _ _ _ _ HB2.out g2).mono ?_
            rintro e w3 ⟨rfl, hb3⟩
            have HB3 := hide (bt HB2.out hb3)
            have S3 := S2.kept hb3
            have C3 := C2.kept hb3
            have T3 := T2.kept hb3
            clear hb3 c0 c1 s0 s1
            obtain ⟨⟨t0, t1⟩, -, -⟩ := id T3
            obtain ⟨⟨s0, s1⟩, -, -⟩ := id S3
            go_wp2_with fail
            refine (HS' _ _ _ _ HB3.out g3).mono ?_
            rintro e w4 ⟨rfl, hb4⟩
            have HB4 := hide (bt HB3.out hb4)
            have S4 := S3.kept hb4
            have C4 := C3.kept hb4
            clear hb4 t0 t1 s0 s1
            obtain ⟨⟨c0, c1⟩, -, -⟩ := id C4
            go_wp2_with fail
            refine (HD _ HB4.out).mono ?_
            rintro e w5 ⟨rfl, hb5⟩
            have HB5 := hide (bt HB4.out hb5)
            have S5 := S4.kept hb5
            clear hb5 c0 c1
            have BZ : Below w5.heap.size w5 ((w5.alloc (.cells #[.int .i64 ax, .int .i64 ay] 23)).alloc (.cells #[.int .i64 bx, .int .i64 bY] 23)) := box2 _ _ _
            have TA : Two ((w5.alloc (.cells #[.int .i64 ax, .int .i64 ay] 23)).alloc (.cells #[.int .i64 bx, .int .i64 bY] 23)) w5.heap.size ax ay := (Two.newAt rfl).alloc
            have TB : Two ((w5.alloc (.cells #[.int .i64 ax, .int .i64 ay] 23)).alloc (.cells #[.int .i64 bx, .int .i64 bY] 23)) (w5.heap.size + 1) bx bY := Two.newAt (by simp)
            obtain ⟨w6, h6⟩ : ∃ w6, (w5.alloc (.cells #[.int .i64 ax, .int .i64 ay] 23)).alloc (.cells #[.int .i64 bx, .int .i64 bY] 23) = w6 := ⟨_, rfl⟩
            rw [h6] at BZ TA TB
            have S6 := S5.kept BZ
            have HB6 := hide (bt HB5.out BZ)
            obtain ⟨⟨a0, a1⟩, -, -⟩ := id TA
            obtain ⟨⟨s0, s1⟩, -, -⟩ := id S6
            go_wp2_with fail
            clear h6
            refine (HS' _ _ _ _ HB6.out g5).mono ?_
            rintro e w7 ⟨rfl, hb7⟩
            have HB7 := hide (bt HB6.out hb7)
            have S7 := S6.kept hb7
            have TB7 := TB.kept hb7
            clear hb7 a0 a1 s0 s1
            go_wp2_with fail
            go_ret
            exact ⟨ret_bool (by simp []), HB7.out⟩
          · go_enter Tryd.func48, Tryd.ntmps48
            go_wp2_with fail
            refine (HT _ B2).mono ?_
            rintro e w1 ⟨rfl, hb1⟩
            have HB1 := hide (bt B2 hb1)
            have S1 := hide (S0.kept hb1)
            have C1 := hide (C0.kept hb1)
            clear S0 C0 hb1
            have BX : Below w1.heap.size w1 (w1.alloc (.cells #[.int .i64 tx, .int .i64 ty] 23)) := box1 _ _
            have T2 : Two (w1.alloc (.cells #[.int .i64 tx, .int .i64 ty] 23)) w1.heap.size tx ty := Two.newAt rfl
            obtain ⟨w2, h2⟩ : ∃ w2, w1.alloc (.cells #[.int .i64 tx, .int .i64 ty] 23) = w2 := ⟨_, rfl⟩
            rw [h2] at BX T2
            have S2 := S1.out.kept BX
            have C2 := C1.out.kept BX
            have HB2 := hide (bt HB1.out BX)
            obtain ⟨⟨c0, c1⟩, -, -⟩ := id C2
            obtain ⟨⟨s0, s1⟩, -, -⟩ := id S2
            go_wp2_with fail
            clear h2
            refine (HS' _ _ _ _ HB2.out g2).mono ?_
            rintro e w3 ⟨rfl, hb3⟩
            have HB3 := hide (bt HB2.out hb3)
            have S3 := S2.kept hb3
            have C3 := C2.kept hb3
            have T3 := T2.kept hb3
            clear hb3 c0 c1 s0 s1
            obtain ⟨⟨t0, t1⟩, -, -⟩ := id T3
            obtain ⟨⟨s0, s1⟩, -, -⟩ := id S3
            go_wp2_with fail
            refine (HS' _ _ _ _ HB3.out g3).mono ?_
            rintro e w4 ⟨rfl, hb4⟩
            have HB4 := hide (bt HB3.out hb4)
            have S4 := S3.kept hb4
            have C4 := C3.kept hb4
            clear hb4 t0 t1 s0 s1
            obtain ⟨⟨c0, c1⟩, -, -⟩ := id C4
            go_wp2_with fail
            refine (HD _ HB4.out).mono ?_
            rintro e w5 ⟨rfl, hb5⟩
            have HB5 := hide (bt HB4.out hb5)
            have S5 := S4.kept hb5
            clear hb5 c0 c1
            have BZ : Below w5.heap.size w5 ((w5.alloc (.cells #[.int .i64 ax, .int .i64 ay] 23)).alloc (.cells #[.int .i64 bx, .int .i64 bY] 23)) := box2 _ _ _
            have TA : Two ((w5.alloc (.cells #[.int .i64 ax, .int .i64 ay] 23)).alloc (.cells #[.int .i64 bx, .int .i64 bY] 23)) w5.heap.size ax ay := (Two.newAt rfl).alloc
            have TB : Two ((w5.alloc (.cells #[.int .i64 ax, .int .i64 ay] 23)).alloc (.cells #[.int .i64 bx, .int .i64 bY] 23)) (w5.heap.size + 1) bx bY := Two.newAt (by simp)
            obtain ⟨w6, h6⟩ : ∃ w6, (w5.alloc (.cells #[.int .i64 ax, .int .i64 ay] 23)).alloc (.cells #[.int .i64 bx, .int .i64 bY] 23) = w6 := ⟨_, rfl⟩
            rw [h6] at BZ TA TB
            have S6 := S5.kept BZ
            have HB6 := hide (bt HB5.out BZ)
            obtain ⟨⟨a0, a1⟩, -, -⟩ := id TA
            obtain ⟨⟨s0, s1⟩, -, -⟩ := id S6
            go_wp2_with fail
            clear h6
            refine (HS' _ _ _ _ HB6.out g5).mono ?_
            rintro e w7 ⟨rfl, hb7⟩
            have HB7 := hide (bt HB6.out hb7)
            have S7 := S6.kept hb7
            have TB7 := TB.kept hb7
            clear hb7 a0 a1 s0 s1
            obtain ⟨⟨b0, b1⟩, -, -⟩ := id TB7
            obtain ⟨⟨s0, s1⟩, -, -⟩ := id S7
            go_wp2_with fail
            refine (HS' _ _ _ _ HB7.out rfl).mono ?_
            rintro e w8 ⟨rfl, hb8⟩
            have HB8 := hide (bt HB7.out hb8)
            clear hb8 b0 b1 s0 s1
            go_wp2_with fail
            go_ret
            exact ⟨ret_bool (by simp []), HB8.out⟩
theorem csteps_is {w : World} {p : Nat} {W H : Int} {tl : List Nat} {f : Int → Int → Option Int} (c s x y d : Int) (hw : Wl w p W H tl f) (hg : Grnd w) (ho : Offs w) :
    Calls Tryd.prog 48 #[ptr p, shv c s, cel x y, .int .i64 d] w fun e w' => e = .returned (.bool (lg (stB W H tl f c s) x y d)) ∧ Below w.heap.size w w' :=
  steps_of p (stB W H tl f c s) c s x y d w (fun wx hb => step_any x y d wx (ho.kept hb)) (fun wx hb => sides_any x y d wx (ho.kept hb)) (fun wx hb u v => stands_any p W H tl f c s u v wx (hw.kept hb) (hg.kept hb))
end Go.Proofs.YtekpamilcpeanaaDoor
