/-
  phalanxlaw04.GridCells, walked.
-/
import Derived.Test.YtobjadfchpgjeaaMk2
import Derived.Test.YtobjadfchpgjeaaDirty
import Derived.Test.YtobjadfchpgjeaaTerr
import Derived.Test.YtobjadfchpgjeaaAsks2
import Derived.Test.YtobjadfchpgjeaaAwake
set_option linter.unusedSimpArgs false
namespace Go.Proofs.Ytobjadfchpgjeaa
open Go.RowKit
set_option linter.unusedVariables false
abbrev ar4 (a b c d : Int) : Value := .agg #[.int .i64 a, .int .i64 b, .int .i64 c, .int .i64 d]
/-- The box of four numbers. -/
def XB (w : World) (k : Nat) (a b c d : Int) : Prop := w.heap[k]? = some (.cells #[.int .i64 a, .int .i64 b, .int .i64 c, .int .i64 d] 36 (0, 0))
theorem XB.lt {w : World} {k : Nat} {a b c d : Int} (h : XB w k a b c d) : k < w.heap.size := (Array.getElem?_eq_some_iff.1 h).1
theorem XB.kept {w w' : World} {k N : Nat} {a b c d : Int} (h : XB w k a b c d) (hk : k < N) (hb : Below N w w') : XB w' k a b c d := (hb.block k hk).trans h
theorem XB.c {w : World} {k : Nat} {a b c d : Int} (h : XB w k a b c d) : w.cell? ⟨k, 0, none⟩ = some (.int .i64 a) ∧ w.cell? ⟨k, 1, none⟩ = some (.int .i64 b) ∧ w.cell? ⟨k, 2, none⟩ = some (.int .i64 c) ∧ w.cell? ⟨k, 3, none⟩ = some (.int .i64 d) :=
  ⟨cell_of_row w k 0 _ _ _ h, cell_of_row w k 1 _ _ _ h, cell_of_row w k 2 _ _ _ h, cell_of_row w k 3 _ _ _ h⟩
theorem below_bb {w w1 : World} (hB : Below w.heap.size w w1) (a b : Value) : Below w.heap.size w (((w1.alloc (.cells #[.pointer none, .pointer none] 30)).setCell ⟨w1.heap.size, 0, none⟩ a).setCell ⟨w1.heap.size, 1, none⟩ b) :=
  ((bt hB (box1 w1 _)).setCell (p := ⟨w1.heap.size, 0, none⟩) hB.size _).setCell (p := ⟨w1.heap.size, 1, none⟩) hB.size _
/-- All that is asked of both worlds, whatever made memory since w. -/
structure Asked (w : World) (p r : Nat) (x y i e t j a b c d : Int) (z q g : Bool) (D : List Rc) : Prop where
  t1 : ∀ wx, Below w.heap.size w wx → Calls Try.prog 11 #[ptr p, cel x y] wx fun e w' => e = .returned (.tuple #[.int .i64 t, .bool z]) ∧ Below wx.heap.size wx w'
  t2 : ∀ wx, Below w.heap.size w wx → Calls Try.prog 12 #[ptr r, cel x y] wx fun e w' => e = .returned (.tuple #[.int .i64 t, .bool z]) ∧ Below wx.heap.size wx w'
  a1 : ∀ wx, Below w.heap.size w wx → Calls Try.prog 13 #[ptr p, cel x y] wx fun e w' => e = .returned (.tuple #[.int .i64 j, .bool q]) ∧ Below wx.heap.size wx w'
  a2 : ∀ wx, Below w.heap.size w wx → Calls Try.prog 14 #[ptr r, cel x y] wx fun e w' => e = .returned (.tuple #[.int .i64 j, .bool q]) ∧ Below wx.heap.size wx w'
  f1 : ∀ wx, Below w.heap.size w wx → Calls Try.prog 15 #[ptr p, .int .i64 i] wx fun e w' => e = .returned (.tuple #[rct a b c d, .bool g]) ∧ Below wx.heap.size wx w'
  f2 : ∀ wx, Below w.heap.size w wx → Calls Try.prog 16 #[ptr r, .int .i64 i] wx fun e w' => e = .returned (.tuple #[rct a b c d, .bool g]) ∧ Below wx.heap.size wx w'
  d1 : ∀ wx, Below w.heap.size w wx → Calls Try.prog 18 #[ptr p, .int .i64 e] wx fun e w' => ∃ v, e = .returned v ∧ Rcs w' v D ∧ Below wx.heap.size wx w'
  d2 : ∀ wx, Below w.heap.size w wx → Calls Try.prog 19 #[ptr r, .int .i64 e] wx fun e w' => ∃ v, e = .returned v ∧ Rcs w' v D ∧ Below wx.heap.size wx w'
theorem BoAt.asked {N : Nat} {w : World} {p r : Nat} {W H : Int} {tl : List Nat} {l : List Bd} {es : List Rc} {bm n : Nat} {tv bv ev rt rb re : Value} (h : BoAt N w p r W H tl l es bm n tv bv ev rt rb re) (hF : Fine W H l) (hm : mt W H tl = true) (hb : ∀ n ∈ tl, n < 256) (hes : es.length * 32 ≤ 140737488355328) (x y i e : Int) (hx : W64 x) (hy : W64 y) :
    ∃ t j a b c d z q g D, Asked w p r x y i e t j a b c d z q g D := by
  obtain ⟨a, b, c, d, g, F1, F2⟩ : ∃ a b c d g, (∀ wx, Below w.heap.size w wx → Calls Try.prog 15 #[ptr p, .int .i64 i] wx fun e w' => e = .returned (.tuple #[rct a b c d, .bool g]) ∧ Below wx.heap.size wx w') ∧ (∀ wx, Below w.heap.size w wx → Calls Try.prog 16 #[ptr r, .int .i64 i] wx fun e w' => e = .returned (.tuple #[rct a b c d, .bool g]) ∧ Below wx.heap.size wx w') := by
    cases hf : found l i
    · exact ⟨0, 0, 0, 0, false, fun wx hx => find_no p bm W H tv bv ev l i wx (h.below hx).d (h.below hx).b hF.sorted hF.len hf, fun wx hx => reffind_no r W H rt rb re l i wx (h.below hx).d' (h.below hx).b' hF.sorted hF.len hf⟩
    · obtain ⟨s, hs, -⟩ := (found_iff hF.sorted i).1 hf
      exact ⟨s.x, s.y, s.a, s.b, true, fun wx hx => find_yes p bm W H tv bv ev l i s wx (h.below hx).d (h.below hx).b hF.sorted hF.len hf hs, fun wx hx => reffind_yes r W H rt rb re l i s wx (h.below hx).d' (h.below hx).b' hF.sorted hF.len hf hs⟩
  obtain ⟨D, D1, D2⟩ : ∃ D, (∀ wx, Below w.heap.size w wx → Calls Try.prog 18 #[ptr p, .int .i64 e] wx fun e w' => ∃ v, e = .returned v ∧ Rcs w' v D ∧ Below wx.heap.size wx w') ∧ (∀ wx, Below w.heap.size w wx → Calls Try.prog 19 #[ptr r, .int .i64 e] wx fun e w' => ∃ v, e = .returned v ∧ Rcs w' v D ∧ Below wx.heap.size wx w') := by
    by_cases he : e < 0 ∨ (es.length : Int) ≤ e
    · refine ⟨[], fun wx hx => (dirty_no p bm W H tv bv ev es e wx (h.below hx).d (h.below hx).e he).mono ?_, fun wx hx => ?_⟩
      · rintro _ w' ⟨rfl, rfl⟩
        exact ⟨_, rfl, World.ownsRow_nil _ _ _ _, Below.refl _ _⟩
      · by_cases hq : e = (es.length : Nat)
        · subst hq
          refine (refdirty_yes r W H rt rb re es es.length wx (h.below hx).d' (h.below hx).e' (Nat.le_refl _) hes).mono ?_
          rintro _ w' ⟨v, rfl, q1, q2, -⟩
          rw [List.drop_length] at q1
          exact ⟨v, rfl, q1, q2⟩
        · refine (refdirty_no r W H rt rb re es e wx (h.below hx).d' (h.below hx).e' (by omega)).mono ?_
          rintro _ w' ⟨rfl, rfl⟩
          exact ⟨_, rfl, World.ownsRow_nil _ _ _ _, Below.refl _ _⟩
    · obtain ⟨k, rfl⟩ : ∃ k : Nat, e = k := ⟨e.toNat, by omega⟩
      refine ⟨es.drop k, fun wx hx => (dirty_yes p bm W H tv bv ev es k wx (h.below hx).d (h.below hx).e (by omega) hes).mono ?_, fun wx hx => (refdirty_yes r W H rt rb re es k wx (h.below hx).d' (h.below hx).e' (by omega) hes).mono ?_⟩
      · rintro _ w' ⟨v, rfl, q1, q2, -⟩
        exact ⟨v, rfl, q1, q2⟩
      · rintro _ w' ⟨v, rfl, q1, q2, -⟩
        exact ⟨v, rfl, q1, q2⟩
  exact ⟨_, _, a, b, c, d, _, _, g, D, fun wx q => terrain_world p bm W H tv bv ev tl x y wx (h.below q).d (h.below q).t hm hb, fun wx q => refterrain_any r W H rt rb re tl x y wx (h.below q).d' (h.below q).t' hm hb,
    fun wx q => at_world p bm n W H tv bv ev (whoF l) x y hx hy wx (h.below q).d (h.below q).f, fun wx q => refat_any r W H rt rb re l x y wx (h.below q).d' (h.below q).b' hF.len, F1, F2, D1, D2⟩
set_option maxRecDepth 100000 in
set_option maxHeartbeats 4000000 in
theorem cells_bad (W H : Int) (tv bv lv : Value) (tl : List Nat) (L : List Bd) (K : List (Bool × Bd)) (x0 x1 x2 x3 : Int) (w : World) (hv : TlR w tv tl) (hb : ∀ x ∈ tl, x < 256) (hl : BdR w bv L) (ht : tl.length ≤ 140737488355328) (hL : L.length * 40 ≤ 140737488355328) (hK : EdR w lv K) (hc : chkC W H tl L = 1) :
    Calls Try.prog 4 #[mp W H tv bv, lv, ar4 x0 x1 x2 x3] w fun e w' => e = .returned (.bool true) ∧ Below w.heap.size w w' := by
  have B0 := box2 w (.cells #[.int .i64 W, .int .i64 H, tv, bv] 25) (.cells #[.int .i64 x0, .int .i64 x1, .int .i64 x2, .int .i64 x3] 36)
  have M0 : MB ((w.alloc (.cells #[.int .i64 W, .int .i64 H, tv, bv] 25)).alloc (.cells #[.int .i64 x0, .int .i64 x1, .int .i64 x2, .int .i64 x3] 36)) w.heap.size W H tv bv := (Below.heap_alloc _ _ _ (by simp)).trans (heap_alloc_new w _)
  obtain ⟨X, hX⟩ : ∃ X, (w.alloc (.cells #[.int .i64 W, .int .i64 H, tv, bv] 25)).alloc (.cells #[.int .i64 x0, .int .i64 x1, .int .i64 x2, .int .i64 x3] 36) = X := ⟨_, rfl⟩
  rw [hX] at B0 M0
  have HM := hide (made_bad W H tv bv lv tl L K X (hv.kept B0) hb (hl.kept B0) ht hL (hK.kept B0) hc)
  have HA : Hid (∀ wx, Calls Try.prog 10 #[] wx fun e w' => e = .returned (.bool true) ∧ Below wx.heap.size wx w') := hide awake_any
  obtain ⟨a1, cap1, rfl, -⟩ := hv
  obtain ⟨a2, cap2, rfl, -⟩ := hl
  obtain ⟨a3, cap3, rfl, -⟩ := hK
  clear hc hb
  obtain ⟨m0, m1, m2, m3⟩ := M0.c
  go_enter Try.func4, Try.ntmps4
  go_wp2_with fail
  refine HM.out.mono ?_
  rintro e w1 ⟨rfl, hb1⟩
  have HB1 := hide (bt B0 hb1)
  have R1 : BB (w1.alloc (.cells #[.pointer none, .pointer none] 30)) w1.heap.size (.pointer none) (.pointer none) := heap_alloc_new w1 _
  obtain ⟨c0, c1, f0, f1⟩ := R1.c
  clear hX m0 m1 m2 m3 M0 hb1 HM R1 B0
  go_wp2_with fail
  refine (HA.out _).mono ?_
  rintro e w2 ⟨rfl, hb2⟩
  have hE : Below w.heap.size w w2 := bt (bt HB1.out (box1 _ _)) hb2
  clear HA hb2
  go_wp2_with fail
  go_ret
  exact ⟨rfl, hE⟩
/-- The boxes of GridCells. -/
def Bx (w : World) (k c b : Nat) (x0 x1 x2 x3 : Int) (p r : Nat) : Prop := (XB w k x0 x1 x2 x3 ∧ w.heap[c]? = some (.cells #[.int .i64 x0, .int .i64 x1] 38 (0, 0))) ∧ BB w b (ptr p) (ptr r)
theorem Bx.kept {w w' : World} {k c b : Nat} {x0 x1 x2 x3 : Int} {p r : Nat} (h : Bx w k c b x0 x1 x2 x3 p r) (hb : Below w.heap.size w w') : Bx w' k c b x0 x1 x2 x3 p r :=
  ⟨⟨h.1.1.kept h.1.1.lt hb, (hb.block c (Array.getElem?_eq_some_iff.1 h.1.2).1).trans h.1.2⟩, h.2.kept hb⟩
theorem Bx.c {w : World} {k c b : Nat} {x0 x1 x2 x3 : Int} {p r : Nat} (h : Bx w k c b x0 x1 x2 x3 p r) : (w.cell? ⟨k, 2, none⟩ = some (.int .i64 x2) ∧ w.cell? ⟨k, 3, none⟩ = some (.int .i64 x3)) ∧ (w.cell? ⟨c, 0, none⟩ = some (.int .i64 x0) ∧ w.cell? ⟨c, 1, none⟩ = some (.int .i64 x1)) ∧ (w.cell? ⟨b, 0, none⟩ = some (ptr p) ∧ w.cell? ⟨b, 1, none⟩ = some (ptr r)) :=
  ⟨⟨h.1.1.c.2.2.1, h.1.1.c.2.2.2⟩, ⟨cell_of_row w c 0 _ _ _ h.1.2, cell_of_row w c 1 _ _ _ h.1.2⟩, h.2.c.1, h.2.c.2.1⟩
set_option maxRecDepth 100000 in
set_option maxHeartbeats 8000000 in
theorem cells_good (W H : Int) (tv bv lv : Value) (tl : List Nat) (L : List Bd) (K : List (Bool × Bd)) (x0 x1 x2 x3 : Int) (hx0 : W64 x0) (hx1 : W64 x1) (w : World) (hv : TlR w tv tl) (hb : ∀ x ∈ tl, x < 256) (hl : BdR w bv L) (ht : tl.length ≤ 140737488355328) (hL : L.length * 40 ≤ 140737488355328) (hK : EdR w lv K) (hc : chkC W H tl L = 0) :
    Calls Try.prog 4 #[mp W H tv bv, lv, ar4 x0 x1 x2 x3] w fun e w' => e = .returned (.bool true) ∧ Below w.heap.size w w' := by
  have B0 := box2 w (.cells #[.int .i64 W, .int .i64 H, tv, bv] 25) (.cells #[.int .i64 x0, .int .i64 x1, .int .i64 x2, .int .i64 x3] 36)
  have M0 : MB ((w.alloc (.cells #[.int .i64 W, .int .i64 H, tv, bv] 25)).alloc (.cells #[.int .i64 x0, .int .i64 x1, .int .i64 x2, .int .i64 x3] 36)) w.heap.size W H tv bv := (Below.heap_alloc _ _ _ (by simp)).trans (heap_alloc_new w _)
  have X0 : XB ((w.alloc (.cells #[.int .i64 W, .int .i64 H, tv, bv] 25)).alloc (.cells #[.int .i64 x0, .int .i64 x1, .int .i64 x2, .int .i64 x3] 36)) (w.heap.size + 1) x0 x1 x2 x3 := by
    have := heap_alloc_new (w.alloc (.cells #[.int .i64 W, .int .i64 H, tv, bv] 25)) (.cells #[.int .i64 x0, .int .i64 x1, .int .i64 x2, .int .i64 x3] 36)
    simpa [XB] using this
  obtain ⟨X, hX⟩ : ∃ X, (w.alloc (.cells #[.int .i64 W, .int .i64 H, tv, bv] 25)).alloc (.cells #[.int .i64 x0, .int .i64 x1, .int .i64 x2, .int .i64 x3] 36) = X := ⟨_, rfl⟩
  rw [hX] at B0 M0 X0
  obtain ⟨hmt, -⟩ := chkC_zero hc
  have HM := hide (made_good W H tv bv lv tl L K X (hv.kept B0) hb (hl.kept B0) ht hL (hK.kept B0) hc)
  have HA : Hid (∀ wx, Calls Try.prog 10 #[] wx fun e w' => e = .returned (.bool true) ∧ Below wx.heap.size wx w') := hide awake_any
  have HT := hide hmt
  have HTb := hide hb
  obtain ⟨a1, cap1, rfl, -⟩ := hv
  obtain ⟨a2, cap2, rfl, -⟩ := hl
  obtain ⟨a3, cap3, rfl, -⟩ := hK
  clear hc hb hmt
  obtain ⟨m0, m1, m2, m3⟩ := M0.c
  go_enter Try.func4, Try.ntmps4
  go_wp2_with fail
  refine HM.out.mono ?_
  rintro e w1 ⟨p, r, rfl, n, hM, hn⟩
  obtain ⟨-, ⟨l, es, bm, n', tv', bv', ev, rt, rb, re, h2, h3, h4, h5⟩, h6, h7⟩ := hM
  obtain ⟨t, j, a, b, c, d, z, q, g, D, hAsk⟩ := h2.asked h3 HT.out HTb.out (by omega) x0 x1 x2 x3 hx0 hx1
  have HAsk := hide hAsk
  have X1 := X0.kept X0.lt h6
  have x1z := X1.lt
  have HB1 := hide (bt B0 h6)
  clear hX m0 m1 m2 m3 M0 HM B0 h2 h3 h4 h5 h6 h7 hAsk X0 HT HTb hn
  obtain ⟨c0, c1, c2, c3⟩ := X1.c
  have B2 : Below w1.heap.size w1 (w1.alloc (.cells #[ptr p, ptr r] 30)) := box1 _ _
  obtain ⟨e0, e1, e2, e3⟩ := (X1.kept X1.lt B2).c
  have B3 : Below w1.heap.size w1 ((w1.alloc (.cells #[ptr p, ptr r] 30)).alloc (.cells #[.int .i64 x0, .int .i64 x1] 38)) := box2 _ _ _
  have S3 : Bx ((w1.alloc (.cells #[ptr p, ptr r] 30)).alloc (.cells #[.int .i64 x0, .int .i64 x1] 38)) (w.heap.size + 1) (w1.heap.size + 1) w1.heap.size x0 x1 x2 x3 p r := by
    refine ⟨⟨X1.kept X1.lt B3, ?_⟩, (Below.heap_alloc _ _ _ (by simp)).trans (heap_alloc_new w1 _)⟩
    have := heap_alloc_new (w1.alloc (.cells #[ptr p, ptr r] 30)) (.cells #[.int .i64 x0, .int .i64 x1] 38)
    simpa using this
  have HS3 := hide S3
  have HB3 := hide B3
  clear S3 B3 X1
  go_wp2_with fail
  refine (HAsk.out.t1 _ HB3.out).mono ?_
  rintro e w4 ⟨rfl, hb4⟩
  have HS4 := hide (HS3.out.kept hb4)
  have HB4 := hide (bt HB3.out hb4)
  clear HS3 HB3 hb4 c0 c1 c2 c3 e0 e1 e2 e3 B2
  obtain ⟨⟨u0, u1⟩, ⟨u2, u3⟩, u4, u5⟩ := HS4.out.c
  go_wp2_with fail
  refine (HAsk.out.t2 _ HB4.out).mono ?_
  rintro e w5 ⟨rfl, hb5⟩
  have HS5 := hide (HS4.out.kept hb5)
  have HB5 := hide (bt HB4.out hb5)
  clear HS4 HB4 hb5 u0 u1 u2 u3 u4 u5
  obtain ⟨⟨u0, u1⟩, ⟨u2, u3⟩, u4, u5⟩ := HS5.out.c
  go_wp2_with fail
  refine (HAsk.out.a1 _ HB5.out).mono ?_
  rintro e w6 ⟨rfl, hb6⟩
  have HS6 := hide (HS5.out.kept hb6)
  have HB6 := hide (bt HB5.out hb6)
  clear HS5 HB5 hb6 u0 u1 u2 u3 u4 u5
  obtain ⟨⟨u0, u1⟩, ⟨u2, u3⟩, u4, u5⟩ := HS6.out.c
  go_wp2_with fail
  refine (HAsk.out.a2 _ HB6.out).mono ?_
  rintro e w7 ⟨rfl, hb7⟩
  have HS7 := hide (HS6.out.kept hb7)
  have HB7 := hide (bt HB6.out hb7)
  clear HS6 HB6 hb7 u0 u1 u2 u3 u4 u5
  obtain ⟨⟨u0, u1⟩, ⟨u2, u3⟩, u4, u5⟩ := HS7.out.c
  go_wp2_with fail
  refine (HAsk.out.f1 _ HB7.out).mono ?_
  rintro e w8 ⟨rfl, hb8⟩
  have F8 : Four (w8.alloc (.cells #[.int .i64 a, .int .i64 b, .int .i64 c, .int .i64 d] 43)) w8.heap.size a b c d := cells4 (Below.refl _ _)
  have B8 : Below w8.heap.size w8 (w8.alloc (.cells #[.int .i64 a, .int .i64 b, .int .i64 c, .int .i64 d] 43)) := box1 _ _
  have S8 := (HS7.out.kept hb8).kept B8
  have HB8 := hide (bt (bt HB7.out hb8) B8)
  obtain ⟨⟨v0, v1⟩, ⟨v2, v3⟩, v4, v5⟩ := S8.c
  have HS8 := hide S8
  have HF8 := hide F8
  obtain ⟨u0, u1⟩ : True ∧ True := ⟨trivial, trivial⟩
  clear HS7 HB7 hb8 u0 u1 u2 u3 u4 u5 S8 F8 B8
  go_wp2_with fail
  refine (HAsk.out.f2 _ HB8.out).mono ?_
  rintro e w9 ⟨rfl, hb9⟩
  have F9 : Four (w9.alloc (.cells #[.int .i64 a, .int .i64 b, .int .i64 c, .int .i64 d] 43)) w9.heap.size a b c d := cells4 (Below.refl _ _)
  have B9 : Below w9.heap.size w9 (w9.alloc (.cells #[.int .i64 a, .int .i64 b, .int .i64 c, .int .i64 d] 43)) := box1 _ _
  have hS : ∀ wx, Below (w9.alloc (.cells #[.int .i64 a, .int .i64 b, .int .i64 c, .int .i64 d] 43)).heap.size (w9.alloc (.cells #[.int .i64 a, .int .i64 b, .int .i64 c, .int .i64 d] 43)) wx → (wx.cell? ⟨w.heap.size + 1, 3, none⟩ = some (.int .i64 x3) ∧ wx.cell? ⟨w1.heap.size, 0, none⟩ = some (ptr p) ∧ wx.cell? ⟨w1.heap.size, 1, none⟩ = some (ptr r)) ∧ (wx.cell? ⟨w8.heap.size, 0, none⟩ = some (.int .i64 a) ∧ wx.cell? ⟨w8.heap.size, 1, none⟩ = some (.int .i64 b) ∧ wx.cell? ⟨w8.heap.size, 2, none⟩ = some (.int .i64 c) ∧ wx.cell? ⟨w8.heap.size, 3, none⟩ = some (.int .i64 d)) ∧ (wx.cell? ⟨w9.heap.size, 0, none⟩ = some (.int .i64 a) ∧ wx.cell? ⟨w9.heap.size, 1, none⟩ = some (.int .i64 b) ∧ wx.cell? ⟨w9.heap.size, 2, none⟩ = some (.int .i64 c) ∧ wx.cell? ⟨w9.heap.size, 3, none⟩ = some (.int .i64 d)) := fun wx hx => by
    have hs := ((HS8.out.kept hb9).kept B9).kept hx
    exact ⟨⟨hs.c.1.2, hs.c.2.2⟩, (((HF8.out.kept hb9).kept B9).kept hx).1, (F9.kept hx).1⟩
  have HB9 := hide (bt (bt HB8.out hb9) B9)
  have HS := hide hS
  obtain ⟨X9, hX9⟩ : ∃ X9, w9.alloc (.cells #[.int .i64 a, .int .i64 b, .int .i64 c, .int .i64 d] 43) = X9 := ⟨_, rfl⟩
  rw [hX9] at HB9 hS HS
  have HE9 := hide hX9
  clear HS8 HB8 hb9 v0 v1 v2 v3 v4 v5 B9 F9 HF8 hS hX9
  go_wp2_with fail
  rw [HE9.out]
  refine wp_only ?_
  refine wp_region_held_drew (S := fun wx => (wx.cell? ⟨w.heap.size + 1, 3, none⟩ = some (.int .i64 x3) ∧ wx.cell? ⟨w1.heap.size, 0, none⟩ = some (ptr p) ∧ wx.cell? ⟨w1.heap.size, 1, none⟩ = some (ptr r)) ∧ (wx.cell? ⟨w8.heap.size, 0, none⟩ = some (.int .i64 a) ∧ wx.cell? ⟨w8.heap.size, 1, none⟩ = some (.int .i64 b) ∧ wx.cell? ⟨w8.heap.size, 2, none⟩ = some (.int .i64 c) ∧ wx.cell? ⟨w8.heap.size, 3, none⟩ = some (.int .i64 d)) ∧ (wx.cell? ⟨w9.heap.size, 0, none⟩ = some (.int .i64 a) ∧ wx.cell? ⟨w9.heap.size, 1, none⟩ = some (.int .i64 b) ∧ wx.cell? ⟨w9.heap.size, 2, none⟩ = some (.int .i64 c) ∧ wx.cell? ⟨w9.heap.size, 3, none⟩ = some (.int .i64 d))) (by kernel_rfl) (HS.out _ (Below.refl _ _).drew) (fun hHeld => ?_)
  refine wpAnyH_take (i := 0) (v := ?_) rfl (by kernel_rfl) (by kernel_rfl) (by kernel_rfl) (fun _ _ _ h => h.elim) (Or.inl ⟨by rfl, ?_⟩) (by assumption) ?_
  rotate_left
  · intro wx hSw
    try dsimp only at hSw
    go_simp
    try with_reducible rfl
  try simp only [Act.put, List.getElem_toArray, List.getElem_cons_zero, List.getElem_cons_succ, List.setIfInBounds_toArray, List.set_cons_zero, List.set_cons_succ]
  refine wpAnyH_take (i := 1) (v := ?_) rfl (by kernel_rfl) (by kernel_rfl) (by kernel_rfl) (fun _ _ _ h => h.elim) (Or.inl ⟨by rfl, ?_⟩) (by assumption) ?_
  rotate_left
  · intro wx hSw
    try dsimp only at hSw
    go_simp
    try with_reducible rfl
  try simp only [Act.put, List.getElem_toArray, List.getElem_cons_zero, List.getElem_cons_succ, List.setIfInBounds_toArray, List.set_cons_zero, List.set_cons_succ]
  refine wpAnyH_take (i := 2) (v := ?_) rfl (by kernel_rfl) (by kernel_rfl) (by kernel_rfl) (fun _ _ _ h => h.elim) (Or.inl ⟨by rfl, ?_⟩) (by assumption) ?_
  rotate_left
  · intro wx hSw
    try dsimp only at hSw
    go_simp
    try with_reducible rfl
  try simp only [Act.put, List.getElem_toArray, List.getElem_cons_zero, List.getElem_cons_succ, List.setIfInBounds_toArray, List.set_cons_zero, List.set_cons_succ]
  refine wpAnyH_take (i := 3) (v := ?_) rfl (by kernel_rfl) (by kernel_rfl) (by kernel_rfl) (fun _ _ _ h => h.elim) (Or.inl ⟨by rfl, ?_⟩) (by assumption) ?_
  rotate_left
  · intro wx hSw
    try dsimp only at hSw
    go_simp
    try with_reducible rfl
  try simp only [Act.put, List.getElem_toArray, List.getElem_cons_zero, List.getElem_cons_succ, List.setIfInBounds_toArray, List.set_cons_zero, List.set_cons_succ]
  refine wpAnyH_take (i := 4) (v := ?_) rfl (by kernel_rfl) (by kernel_rfl) (by kernel_rfl) (fun _ _ _ h => h.elim) (Or.inl ⟨by rfl, ?_⟩) (by assumption) ?_
  rotate_left
  · intro wx hSw
    try dsimp only at hSw
    go_simp
    try with_reducible rfl
  try simp only [Act.put, List.getElem_toArray, List.getElem_cons_zero, List.getElem_cons_succ, List.setIfInBounds_toArray, List.set_cons_zero, List.set_cons_succ]
  refine wpAnyH_take (i := 5) (v := ?_) rfl (by kernel_rfl) (by kernel_rfl) (by kernel_rfl) (fun _ _ _ h => h.elim) (Or.inl ⟨by rfl, ?_⟩) (by assumption) ?_
  rotate_left
  · intro wx hSw
    try dsimp only at hSw
    go_simp
    try with_reducible rfl
  try simp only [Act.put, List.getElem_toArray, List.getElem_cons_zero, List.getElem_cons_succ, List.setIfInBounds_toArray, List.set_cons_zero, List.set_cons_succ]
  refine wpAnyH_take (i := 6) (v := ?_) rfl (by kernel_rfl) (by kernel_rfl) (by kernel_rfl) (fun _ _ _ h => h.elim) (Or.inl ⟨by rfl, ?_⟩) (by assumption) ?_
  rotate_left
  · intro wx hSw
    try dsimp only at hSw
    go_simp
    try with_reducible rfl
  try simp only [Act.put, List.getElem_toArray, List.getElem_cons_zero, List.getElem_cons_succ, List.setIfInBounds_toArray, List.set_cons_zero, List.set_cons_succ]
  refine wpAnyH_take (i := 7) (v := ?_) rfl (by kernel_rfl) (by kernel_rfl) (by kernel_rfl) (fun _ _ _ h => h.elim) (Or.inl ⟨by rfl, ?_⟩) (by assumption) ?_
  rotate_left
  · intro wx hSw
    try dsimp only at hSw
    go_simp
    try with_reducible rfl
  try simp only [Act.put, List.getElem_toArray, List.getElem_cons_zero, List.getElem_cons_succ, List.setIfInBounds_toArray, List.set_cons_zero, List.set_cons_succ]
  refine wpAnyH_take (i := 8) (v := ?_) rfl (by kernel_rfl) (by kernel_rfl) (by kernel_rfl) (fun _ _ _ h => h.elim) (Or.inl ⟨by rfl, ?_⟩) (by assumption) ?_
  rotate_left
  · intro wx hSw
    try dsimp only at hSw
    go_simp
    try with_reducible rfl
  try simp only [Act.put, List.getElem_toArray, List.getElem_cons_zero, List.getElem_cons_succ, List.setIfInBounds_toArray, List.set_cons_zero, List.set_cons_succ]
  refine wpAnyH_take (i := 9) (v := ?_) rfl (by kernel_rfl) (by kernel_rfl) (by kernel_rfl) (fun _ _ _ h => h.elim) (Or.inl ⟨by rfl, ?_⟩) (by assumption) ?_
  rotate_left
  · intro wx hSw
    try dsimp only at hSw
    go_simp
    try with_reducible rfl
  try simp only [Act.put, List.getElem_toArray, List.getElem_cons_zero, List.getElem_cons_succ, List.setIfInBounds_toArray, List.set_cons_zero, List.set_cons_succ]
  refine wpAnyH_take (i := 10) (v := ?_) rfl (by kernel_rfl) (by kernel_rfl) (by kernel_rfl) (fun _ _ _ h => h.elim) (Or.inl ⟨by rfl, ?_⟩) (by assumption) ?_
  rotate_left
  · intro wx hSw
    try dsimp only at hSw
    go_simp
    try with_reducible rfl
  try simp only [Act.put, List.getElem_toArray, List.getElem_cons_zero, List.getElem_cons_succ, List.setIfInBounds_toArray, List.set_cons_zero, List.set_cons_succ]
  refine wpAnyH_take (i := 11) (v := ?_) rfl (by kernel_rfl) (by kernel_rfl) (by kernel_rfl) (fun _ _ _ h => h.elim) (Or.inl ⟨by rfl, ?_⟩) (by assumption) ?_
  rotate_left
  · intro wx hSw
    try dsimp only at hSw
    go_simp
    try with_reducible rfl
  try simp only [Act.put, List.getElem_toArray, List.getElem_cons_zero, List.getElem_cons_succ, List.setIfInBounds_toArray, List.set_cons_zero, List.set_cons_succ]
  refine wpAnyH_take (i := 12) (v := ?_) rfl (by kernel_rfl) (by kernel_rfl) (by kernel_rfl) (fun _ _ _ h => h.elim) (Or.inl ⟨by rfl, ?_⟩) (by assumption) ?_
  rotate_left
  · intro wx hSw
    try dsimp only at hSw
    go_simp
    try with_reducible rfl
  try simp only [Act.put, List.getElem_toArray, List.getElem_cons_zero, List.getElem_cons_succ, List.setIfInBounds_toArray, List.set_cons_zero, List.set_cons_succ]
  refine wpAnyH_take (i := 13) (v := ?_) rfl (by kernel_rfl) (by kernel_rfl) (by kernel_rfl) (fun _ _ _ h => h.elim) (Or.inl ⟨by rfl, ?_⟩) (by assumption) ?_
  rotate_left
  · intro wx hSw
    try dsimp only at hSw
    go_simp
    try with_reducible rfl
  try simp only [Act.put, List.getElem_toArray, List.getElem_cons_zero, List.getElem_cons_succ, List.setIfInBounds_toArray, List.set_cons_zero, List.set_cons_succ]
  refine wpAnyH_take (i := 14) (v := ?_) rfl (by kernel_rfl) (by kernel_rfl) (by kernel_rfl) (fun _ _ _ h => h.elim) (Or.inl ⟨by rfl, ?_⟩) (by assumption) ?_
  rotate_left
  · intro wx hSw
    try dsimp only at hSw
    go_simp
    try with_reducible rfl
  try simp only [Act.put, List.getElem_toArray, List.getElem_cons_zero, List.getElem_cons_succ, List.setIfInBounds_toArray, List.set_cons_zero, List.set_cons_succ]
  refine wpAnyH_take (i := 15) (v := ?_) rfl (by kernel_rfl) (by kernel_rfl) (by kernel_rfl) (fun _ _ _ h => h.elim) (Or.inl ⟨by rfl, ?_⟩) (by assumption) ?_
  rotate_left
  · intro wx hSw
    try dsimp only at hSw
    go_simp
    try with_reducible rfl
  try simp only [Act.put, List.getElem_toArray, List.getElem_cons_zero, List.getElem_cons_succ, List.setIfInBounds_toArray, List.set_cons_zero, List.set_cons_succ]
  refine wpAnyH_take (i := 16) (v := ?_) rfl (by kernel_rfl) (by kernel_rfl) (by kernel_rfl) (fun _ _ _ h => h.elim) (Or.inl ⟨by rfl, ?_⟩) (by assumption) ?_
  rotate_left
  · intro wx hSw
    try dsimp only at hSw
    go_simp
    try with_reducible rfl
  try simp only [Act.put, List.getElem_toArray, List.getElem_cons_zero, List.getElem_cons_succ, List.setIfInBounds_toArray, List.set_cons_zero, List.set_cons_succ]
  refine wpAnyH_take (i := 17) (v := ?_) rfl (by kernel_rfl) (by kernel_rfl) (by kernel_rfl) (fun _ _ _ h => h.elim) (Or.inl ⟨by rfl, ?_⟩) (by assumption) ?_
  rotate_left
  · intro wx hSw
    try dsimp only at hSw
    go_simp
    try with_reducible rfl
  try simp only [Act.put, List.getElem_toArray, List.getElem_cons_zero, List.getElem_cons_succ, List.setIfInBounds_toArray, List.set_cons_zero, List.set_cons_succ]
  refine wpAnyH_take (i := 18) (v := ?_) rfl (by kernel_rfl) (by kernel_rfl) (by kernel_rfl) (fun _ _ _ h => h.elim) (Or.inl ⟨by rfl, ?_⟩) (by assumption) ?_
  rotate_left
  · intro wx hSw
    try dsimp only at hSw
    go_simp
    try with_reducible rfl
  try simp only [Act.put, List.getElem_toArray, List.getElem_cons_zero, List.getElem_cons_succ, List.setIfInBounds_toArray, List.set_cons_zero, List.set_cons_succ]
  refine wpAnyH_take (i := 19) (v := ?_) rfl (by kernel_rfl) (by kernel_rfl) (by kernel_rfl) (fun _ _ _ h => h.elim) (Or.inl ⟨by rfl, ?_⟩) (by assumption) ?_
  rotate_left
  · intro wx hSw
    try dsimp only at hSw
    go_simp
    try with_reducible rfl
  try simp only [Act.put, List.getElem_toArray, List.getElem_cons_zero, List.getElem_cons_succ, List.setIfInBounds_toArray, List.set_cons_zero, List.set_cons_succ]
  refine wpAnyH_take (i := 20) (v := ?_) rfl (by kernel_rfl) (by kernel_rfl) (by kernel_rfl) (fun _ _ _ h => h.elim) (Or.inl ⟨by rfl, ?_⟩) (by assumption) ?_
  rotate_left
  · intro wx hSw
    try dsimp only at hSw
    go_simp
    try with_reducible rfl
  try simp only [Act.put, List.getElem_toArray, List.getElem_cons_zero, List.getElem_cons_succ, List.setIfInBounds_toArray, List.set_cons_zero, List.set_cons_succ]
  refine wpAnyH_take (i := 21) (v := ?_) rfl (by kernel_rfl) (by kernel_rfl) (by kernel_rfl) (fun _ _ _ h => h.elim) (Or.inl ⟨by rfl, ?_⟩) (by assumption) ?_
  rotate_left
  · intro wx hSw
    try dsimp only at hSw
    go_simp
    try with_reducible rfl
  try simp only [Act.put, List.getElem_toArray, List.getElem_cons_zero, List.getElem_cons_succ, List.setIfInBounds_toArray, List.set_cons_zero, List.set_cons_succ]
  refine wpAnyH_take (i := 22) (v := ?_) rfl (by kernel_rfl) (by kernel_rfl) (by kernel_rfl) (fun _ _ _ h => h.elim) (Or.inl ⟨by rfl, ?_⟩) (by assumption) ?_
  rotate_left
  · intro wx hSw
    try dsimp only at hSw
    go_simp
    try with_reducible rfl
  try simp only [Act.put, List.getElem_toArray, List.getElem_cons_zero, List.getElem_cons_succ, List.setIfInBounds_toArray, List.set_cons_zero, List.set_cons_succ]
  refine wpAnyH_take (i := 23) (v := ?_) rfl (by kernel_rfl) (by kernel_rfl) (by kernel_rfl) (fun _ _ _ h => h.elim) (Or.inl ⟨by rfl, ?_⟩) (by assumption) ?_
  rotate_left
  · intro wx hSw
    try dsimp only at hSw
    go_simp
    try with_reducible rfl
  try simp only [Act.put, List.getElem_toArray, List.getElem_cons_zero, List.getElem_cons_succ, List.setIfInBounds_toArray, List.set_cons_zero, List.set_cons_succ]
  refine wpAnyH_take (i := 24) (v := ?_) rfl (by kernel_rfl) (by kernel_rfl) (by kernel_rfl) (fun _ _ _ h => h.elim) (Or.inl ⟨by rfl, ?_⟩) (by assumption) ?_
  rotate_left
  · intro wx hSw
    try dsimp only at hSw
    go_simp
    try with_reducible rfl
  try simp only [Act.put, List.getElem_toArray, List.getElem_cons_zero, List.getElem_cons_succ, List.setIfInBounds_toArray, List.set_cons_zero, List.set_cons_succ]
  refine wpAnyH_take (i := 25) (v := ?_) rfl (by kernel_rfl) (by kernel_rfl) (by kernel_rfl) (fun _ _ _ h => h.elim) (Or.inl ⟨by rfl, ?_⟩) (by assumption) ?_
  rotate_left
  · intro wx hSw
    try dsimp only at hSw
    go_simp
    try with_reducible rfl
  try simp only [Act.put, List.getElem_toArray, List.getElem_cons_zero, List.getElem_cons_succ, List.setIfInBounds_toArray, List.set_cons_zero, List.set_cons_succ]
  refine wpAnyH_take (i := 26) (v := ?_) rfl (by kernel_rfl) (by kernel_rfl) (by kernel_rfl) (fun _ _ _ h => h.elim) (Or.inl ⟨by rfl, ?_⟩) (by assumption) ?_
  rotate_left
  · intro wx hSw
    try dsimp only at hSw
    go_simp
    try with_reducible rfl
  try simp only [Act.put, List.getElem_toArray, List.getElem_cons_zero, List.getElem_cons_succ, List.setIfInBounds_toArray, List.set_cons_zero, List.set_cons_succ]
  refine wpAnyH_take (i := 27) (v := ?_) rfl (by kernel_rfl) (by kernel_rfl) (by kernel_rfl) (fun _ _ _ h => h.elim) (Or.inl ⟨by rfl, ?_⟩) (by assumption) ?_
  rotate_left
  · intro wx hSw
    try dsimp only at hSw
    go_simp
    try with_reducible rfl
  try simp only [Act.put, List.getElem_toArray, List.getElem_cons_zero, List.getElem_cons_succ, List.setIfInBounds_toArray, List.set_cons_zero, List.set_cons_succ]
  refine wpAnyH_take (i := 28) (v := ?_) rfl (by kernel_rfl) (by kernel_rfl) (by kernel_rfl) (fun _ _ _ h => h.elim) (Or.inl ⟨by rfl, ?_⟩) (by assumption) ?_
  rotate_left
  · intro wx hSw
    try dsimp only at hSw
    go_simp
    try with_reducible rfl
  try simp only [Act.put, List.getElem_toArray, List.getElem_cons_zero, List.getElem_cons_succ, List.setIfInBounds_toArray, List.set_cons_zero, List.set_cons_succ]
  refine wpAnyH_take (i := 29) (v := ?_) rfl (by kernel_rfl) (by kernel_rfl) (by kernel_rfl) (fun _ _ _ h => h.elim) (Or.inl ⟨by rfl, ?_⟩) (by assumption) ?_
  rotate_left
  · intro wx hSw
    try dsimp only at hSw
    go_simp
    try with_reducible rfl
  try simp only [Act.put, List.getElem_toArray, List.getElem_cons_zero, List.getElem_cons_succ, List.setIfInBounds_toArray, List.set_cons_zero, List.set_cons_succ]
  refine wpAnyH_take (i := 30) (v := ?_) rfl (by kernel_rfl) (by kernel_rfl) (by kernel_rfl) (fun _ _ _ h => h.elim) (Or.inl ⟨by rfl, ?_⟩) (by assumption) ?_
  rotate_left
  · intro wx hSw
    try dsimp only at hSw
    go_simp
    try with_reducible rfl
  try simp only [Act.put, List.getElem_toArray, List.getElem_cons_zero, List.getElem_cons_succ, List.setIfInBounds_toArray, List.set_cons_zero, List.set_cons_succ]
  refine wpAnyH_take (i := 31) (v := ?_) rfl (by kernel_rfl) (by kernel_rfl) (by kernel_rfl) (fun _ _ _ h => h.elim) (Or.inl ⟨by rfl, ?_⟩) (by assumption) ?_
  rotate_left
  · intro wx hSw
    try dsimp only at hSw
    go_simp
    try with_reducible rfl
  try simp only [Act.put, List.getElem_toArray, List.getElem_cons_zero, List.getElem_cons_succ, List.setIfInBounds_toArray, List.set_cons_zero, List.set_cons_succ]
  refine wpAnyH_take (i := 32) (v := ?_) rfl (by kernel_rfl) (by kernel_rfl) (by kernel_rfl) (fun _ _ _ h => h.elim) (Or.inl ⟨by rfl, ?_⟩) (by assumption) ?_
  rotate_left
  · intro wx hSw
    try dsimp only at hSw
    go_simp
    try with_reducible rfl
  try simp only [Act.put, List.getElem_toArray, List.getElem_cons_zero, List.getElem_cons_succ, List.setIfInBounds_toArray, List.set_cons_zero, List.set_cons_succ]
  refine wpAnyH_take (i := 34) (v := ?_) rfl (by kernel_rfl) (by kernel_rfl) (by kernel_rfl) (fun _ _ _ h => h.elim) (Or.inl ⟨by rfl, ?_⟩) (by assumption) ?_
  rotate_left
  · intro wx hSw
    try dsimp only at hSw
    go_simp
    try with_reducible rfl
  try simp only [Act.put, List.getElem_toArray, List.getElem_cons_zero, List.getElem_cons_succ, List.setIfInBounds_toArray, List.set_cons_zero, List.set_cons_succ]
  refine wpAnyH_take (i := 35) (v := ?_) rfl (by kernel_rfl) (by kernel_rfl) (by kernel_rfl) (fun _ _ _ h => h.elim) (Or.inl ⟨by rfl, ?_⟩) (by assumption) ?_
  rotate_left
  · intro wx hSw
    try dsimp only at hSw
    go_simp
    try with_reducible rfl
  try simp only [Act.put, List.getElem_toArray, List.getElem_cons_zero, List.getElem_cons_succ, List.setIfInBounds_toArray, List.set_cons_zero, List.set_cons_succ]
  refine wpAnyH_take (i := 36) (v := ?_) rfl (by kernel_rfl) (by kernel_rfl) (by kernel_rfl) (fun _ _ _ h => h.elim) (Or.inl ⟨by rfl, ?_⟩) (by assumption) ?_
  rotate_left
  · intro wx hSw
    try dsimp only at hSw
    go_simp
    try with_reducible rfl
  try simp only [Act.put, List.getElem_toArray, List.getElem_cons_zero, List.getElem_cons_succ, List.setIfInBounds_toArray, List.set_cons_zero, List.set_cons_succ]
  refine wpAnyH_take (i := 37) (v := ?_) rfl (by kernel_rfl) (by kernel_rfl) (by kernel_rfl) (fun _ _ _ h => h.elim) (Or.inl ⟨by rfl, ?_⟩) (by assumption) ?_
  rotate_left
  · intro wx hSw
    try dsimp only at hSw
    go_simp
    try with_reducible rfl
  try simp only [Act.put, List.getElem_toArray, List.getElem_cons_zero, List.getElem_cons_succ, List.setIfInBounds_toArray, List.set_cons_zero, List.set_cons_succ]
  refine wpAnyH_ready (rs := [33]) (by kernel_rfl) (by simp) ?_
  refine AllReadyH.cons rfl (fun K hK => ?_) ?_
  · go_simp
    refine (HAsk.out.d1 _ (bt HB9.out (Below.refl _ _).drew)).mono ?_
    rintro e v1 ⟨vd, rfl, hr1, hb1⟩
    have hX1 : Below X9.heap.size X9 v1 := below_undrew hb1
    have HR1 := hide hr1
    clear hr1
    obtain ⟨vda, vdc, rfl, -⟩ := HR1.out.form
    try go_wp2_with fail
    refine hK.out _ _ ?_ (fun hHeld => ?_)
    · first | exact HS.out _ (Below.refl _ _).drew | exact HS.out _ hX1 | exact HS.out _ hX2 | exact HS.out _ hX3 | exact HS.out _ hX4
    clear hK K
    try simp only [Act.put, List.getElem_toArray, List.getElem_cons_zero, List.getElem_cons_succ, List.setIfInBounds_toArray, List.set_cons_zero, List.set_cons_succ]
    refine wpAnyH_ready (rs := [38]) (by kernel_rfl) (by simp) ?_
    refine AllReadyH.cons rfl (fun K hK => ?_) ?_
    · go_simp
      refine (HAsk.out.d2 _ (bt HB9.out hX1)).mono ?_
      rintro e v2 ⟨ve, rfl, hr2, hb2⟩
      have hX2 : Below X9.heap.size X9 v2 := bt hX1 hb2
      have HR2 := hide hr2
      have HR1' := hide (HR1.out.kept (Turns.of_below (S := NoB) hb2) (fun _ _ => id))
      clear hr2 hb2
      obtain ⟨vea, vec, rfl, -⟩ := HR2.out.form
      try go_wp2_with fail
      refine hK.out _ _ ?_ (fun hHeld => ?_)
      · first | exact HS.out _ (Below.refl _ _).drew | exact HS.out _ hX1 | exact HS.out _ hX2 | exact HS.out _ hX3 | exact HS.out _ hX4
      clear hK K
      try simp only [Act.put, List.getElem_toArray, List.getElem_cons_zero, List.getElem_cons_succ, List.setIfInBounds_toArray, List.set_cons_zero, List.set_cons_succ]
      refine wpAnyH_ready (rs := [39]) (by kernel_rfl) (by simp) ?_
      refine AllReadyH.cons rfl (fun K hK => ?_) ?_
      · go_simp
        refine (rects_any _ _ _ _ HR1'.out HR2.out).mono ?_
        rintro e v3 ⟨rfl, hb3⟩
        have hX3 : Below X9.heap.size X9 v3 := bt hX2 hb3
        clear hb3
        try go_wp2_with fail
        refine hK.out _ _ ?_ (fun hHeld => ?_)
        · first | exact HS.out _ (Below.refl _ _).drew | exact HS.out _ hX1 | exact HS.out _ hX2 | exact HS.out _ hX3 | exact HS.out _ hX4
        clear hK K
        try simp only [Act.put, List.getElem_toArray, List.getElem_cons_zero, List.getElem_cons_succ, List.setIfInBounds_toArray, List.set_cons_zero, List.set_cons_succ]
        refine wpAnyH_take (i := 40) (v := ?_) rfl (by kernel_rfl) (by kernel_rfl) (by kernel_rfl) (fun _ _ _ h => h.elim) (Or.inl ⟨by rfl, ?_⟩) (by assumption) ?_
        rotate_left
        · intro wx hSw
          try dsimp only at hSw
          go_simp
          try with_reducible rfl
        try simp only [Act.put, List.getElem_toArray, List.getElem_cons_zero, List.getElem_cons_succ, List.setIfInBounds_toArray, List.set_cons_zero, List.set_cons_succ]
        refine wpAnyH_take (i := 41) (v := ?_) rfl (by kernel_rfl) (by kernel_rfl) (by kernel_rfl) (fun _ _ _ h => h.elim) (Or.inl ⟨by rfl, ?_⟩) (by assumption) ?_
        rotate_left
        · intro wx hSw
          try dsimp only at hSw
          go_simp
          try with_reducible rfl
        try simp only [Act.put, List.getElem_toArray, List.getElem_cons_zero, List.getElem_cons_succ, List.setIfInBounds_toArray, List.set_cons_zero, List.set_cons_succ]
        refine wpAnyH_ready (rs := [42]) (by kernel_rfl) (by simp) ?_
        refine AllReadyH.cons rfl (fun K hK => ?_) ?_
        · go_simp
          refine (HA.out _).mono ?_
          rintro e v4 ⟨rfl, hb4⟩
          have hX4 : Below X9.heap.size X9 v4 := bt hX3 hb4
          clear hb4
          try go_wp2_with fail
          refine hK.out _ _ ?_ (fun hHeld => ?_)
          · first | exact HS.out _ (Below.refl _ _).drew | exact HS.out _ hX1 | exact HS.out _ hX2 | exact HS.out _ hX3 | exact HS.out _ hX4
          clear hK K
          try simp only [Act.put, List.getElem_toArray, List.getElem_cons_zero, List.getElem_cons_succ, List.setIfInBounds_toArray, List.set_cons_zero, List.set_cons_succ]
          refine wpAnyH_take (i := 43) (v := ?_) rfl (by kernel_rfl) (by kernel_rfl) (by kernel_rfl) (fun _ _ _ h => h.elim) (Or.inl ⟨by rfl, ?_⟩) (by assumption) ?_
          rotate_left
          · intro wx hSw
            try dsimp only at hSw
            go_simp
            try with_reducible rfl
          try simp only [Act.put, List.getElem_toArray, List.getElem_cons_zero, List.getElem_cons_succ, List.setIfInBounds_toArray, List.set_cons_zero, List.set_cons_succ]
          refine wpAnyH_take (i := 44) (v := ?_) rfl (by kernel_rfl) (by kernel_rfl) (by kernel_rfl) (fun _ _ _ h => h.elim) (Or.inl ⟨by rfl, ?_⟩) (by assumption) ?_
          rotate_left
          · intro wx hSw
            try dsimp only at hSw
            go_simp
            try with_reducible rfl
          try simp only [Act.put, List.getElem_toArray, List.getElem_cons_zero, List.getElem_cons_succ, List.setIfInBounds_toArray, List.set_cons_zero, List.set_cons_succ]
          refine wpAnyH_done (by kernel_rfl) ?_ _
          dsimp only [Only, Exit.then]
          go_wp2_with fail
          go_ret
          exact ⟨rfl, bt HB1.out (bt HB9.out hX4)⟩
        exact AllReadyH.nil
      exact AllReadyH.nil
    exact AllReadyH.nil
  exact AllReadyH.nil
end Go.Proofs.Ytobjadfchpgjeaa
