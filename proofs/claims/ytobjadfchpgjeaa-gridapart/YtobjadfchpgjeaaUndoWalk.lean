/-
  phalanxlaw04.GridUndoes, walked.
-/
import Derived.Test.YtobjadfchpgjeaaUndo
import Derived.Test.YtobjadfchpgjeaaAwake
set_option linter.unusedSimpArgs false
namespace Go.Proofs.Ytobjadfchpgjeaa
open Go.RowKit
set_option linter.unusedVariables false
theorem mt_len {W H : Int} {tl : List Nat} (hm : mt W H tl = true) : tl.length ≤ 16384 := by
  simp only [mt, Bool.and_eq_true, decide_eq_true_iff] at hm
  have := area hm.1 hm.2.1
  have := hm.2.2.1
  omega
/-- The boxes of GridUndoes, and the map that was. -/
structure Ub (w : World) (k b c : Nat) (t : Bd) (p r : Nat) (W H : Int) (tv bv : Value) (tl : List Nat) (l : List Bd) : Prop where
  x : Five w k t
  b : BB w b (ptr p) (ptr r)
  m : MB w c W H tv bv
  tt : Tls w tv tl
  bb : Bds w bv l
section
variable {w w' : World} {k b c : Nat} {t : Bd} {p r : Nat} {W H : Int} {tv bv : Value} {tl : List Nat} {l : List Bd}
theorem Ub.turn {S : Nat → Prop} (h : Ub w k b c t p r W H tv bv tl l) (T : Turns S w w') (h1 : ¬ S k) (h2 : ¬ S b) (h3 : ¬ S c) (h4 : ∀ j, tv.ownBlock = some j → ¬ S j) (h5 : ∀ j, bv.ownBlock = some j → ¬ S j) : Ub w' k b c t p r W H tv bv tl l :=
  ⟨T.same h1 h.x, T.same h2 h.b, T.same h3 h.m, h.tt.kept T h4, h.bb.kept T h5⟩
theorem Ub.kept (h : Ub w k b c t p r W H tv bv tl l) (hb : Below w.heap.size w w') : Ub w' k b c t p r W H tv bv tl l := h.turn (Turns.of_below (S := NoB) hb) id id id (fun _ _ => id) (fun _ _ => id)
theorem Ub.cells (h : Ub w k b c t p r W H tv bv tl l) : (w.cell? ⟨k, 0, none⟩ = some (.int .i64 t.id) ∧ w.cell? ⟨k, 1, none⟩ = some (.int .i64 t.x) ∧ w.cell? ⟨k, 2, none⟩ = some (.int .i64 t.y) ∧ w.cell? ⟨k, 3, none⟩ = some (.int .i64 t.a) ∧ w.cell? ⟨k, 4, none⟩ = some (.int .i64 t.b)) ∧ w.cell? ⟨b, 0, none⟩ = some (ptr p) := ⟨⟨h.x.c 0, h.x.c 1, h.x.c 2, h.x.c 3, h.x.c 4⟩, h.b.c.1⟩
theorem Ub.s (h : Ub w k b c t p r W H tv bv tl l) : w.cell? ⟨b, 0, none⟩ = some (ptr p) ∧ w.cell? ⟨c, 0, none⟩ = some (.int .i64 W) ∧ w.cell? ⟨c, 1, none⟩ = some (.int .i64 H) ∧ w.cell? ⟨c, 2, none⟩ = some tv ∧ w.cell? ⟨c, 3, none⟩ = some bv := ⟨h.b.c.1, h.m.c⟩
theorem Pa.map {es : List Rc} {bm n : Nat} {ev : Value} (h : Pa w p W H tl l es bm n tv bv ev) (hm : mt W H tl = true) (hF : Fine W H l) : Calls Try.prog 21 #[ptr p] w (Mapped w W H tl l) := map_world p bm W H tv bv ev tl l w h.d h.t h.b (mt_len hm) hF.len
theorem Ub.same (h : Ub w k b c t p r W H tv bv tl l) (tv' bv' : Value) (h1 : Tls w tv' tl) (h2 : Bds w bv' l) : Calls Try.prog 27 #[mp W H tv' bv', mp W H tv bv] w fun e w' => e = .returned (.bool true) ∧ Below w.heap.size w w' := same_yes W H tv' bv' tv bv tl l w h1.r h.tt.r h2.r h.bb.r
theorem Made.pa {w0 : World} (h : Made w0 W H tl l p w) (hF : Fine W H l) (hm : mt W H tl = true) : (∃ bm n tv bv, Pa w p W H tl l [] bm n tv bv (.slice none 0 0)) ∧ Below w0.heap.size w0 w := by
  obtain ⟨bm, tv, bv, a1, a2, a3, a4, a5, -⟩ := h
  rw [(chkC_zero (fine_chk hF hm)).2.2.2.1] at a4
  exact ⟨⟨bm, _, tv, bv, a1, a2, a3, a4, World.ownsRow_nil _ _ _ _⟩, a5⟩
end
set_option maxRecDepth 100000 in
set_option maxHeartbeats 4000000 in
theorem undoes_bad (W H : Int) (tv bv lv : Value) (tl : List Nat) (L : List Bd) (K : List (Bool × Bd)) (t : Bd) (w : World) (hv : TlR w tv tl) (hb : ∀ x ∈ tl, x < 256) (hl : BdR w bv L) (ht : tl.length ≤ 140737488355328) (hL : L.length * 40 ≤ 140737488355328) (hK : EdR w lv K) (hc : chkC W H tl L = 1) :
    Calls Try.prog 6 #[mp W H tv bv, lv, t.v] w fun e w' => e = .returned (.bool true) ∧ Below w.heap.size w w' := by
  have B0 := box2 w (.cells #[.int .i64 W, .int .i64 H, tv, bv] 25) (.cells #[.int .i64 t.id, .int .i64 t.x, .int .i64 t.y, .int .i64 t.a, .int .i64 t.b] 55)
  have M0 : MB ((w.alloc (.cells #[.int .i64 W, .int .i64 H, tv, bv] 25)).alloc (.cells #[.int .i64 t.id, .int .i64 t.x, .int .i64 t.y, .int .i64 t.a, .int .i64 t.b] 55)) w.heap.size W H tv bv := (Below.heap_alloc _ _ _ (by simp)).trans (heap_alloc_new w _)
  obtain ⟨X, hX⟩ : ∃ X, (w.alloc (.cells #[.int .i64 W, .int .i64 H, tv, bv] 25)).alloc (.cells #[.int .i64 t.id, .int .i64 t.x, .int .i64 t.y, .int .i64 t.a, .int .i64 t.b] 55) = X := ⟨_, rfl⟩
  rw [hX] at B0 M0
  have HM := hide (made_bad W H tv bv lv tl L K X (hv.kept B0) hb (hl.kept B0) ht hL (hK.kept B0) hc)
  have HA : Hid (∀ wx, Calls Try.prog 10 #[] wx fun e w' => e = .returned (.bool true) ∧ Below wx.heap.size wx w') := hide awake_any
  obtain ⟨a1, cap1, rfl, -⟩ := hv
  obtain ⟨a2, cap2, rfl, -⟩ := hl
  obtain ⟨a3, cap3, rfl, -⟩ := hK
  clear hc hb
  obtain ⟨m0, m1, m2, m3⟩ := M0.c
  go_enter Try.func6, Try.ntmps6
  go_wp2_with fail
  refine HM.out.mono ?_
  rintro e w1 ⟨rfl, hb1⟩
  have HB1 := hide (bt B0 hb1)
  clear hX m0 m1 m2 m3 M0 hb1 HM B0
  go_wp2_with fail
  refine (HA.out _).mono ?_
  rintro e w2 ⟨rfl, hb2⟩
  have hE : Below w.heap.size w w2 := bt (bt HB1.out (box1 _ _)) hb2
  clear HA hb2
  go_wp2_with fail
  go_ret
  exact ⟨rfl, hE⟩
set_option maxRecDepth 100000 in
set_option maxHeartbeats 8000000 in
theorem undoes_good (W H : Int) (tv bv lv : Value) (tl : List Nat) (L : List Bd) (K : List (Bool × Bd)) (t : Bd) (w : World) (hv : TlR w tv tl) (hb : ∀ x ∈ tl, x < 256) (hl : BdR w bv L) (ht : tl.length ≤ 140737488355328) (hL : L.length * 40 ≤ 140737488355328) (hK : EdR w lv K) (hc : chkC W H tl L = 0) :
    Calls Try.prog 6 #[mp W H tv bv, lv, t.v] w fun e w' => e = .returned (.bool true) ∧ Below w.heap.size w w' := by
  have B0 := box2 w (.cells #[.int .i64 W, .int .i64 H, tv, bv] 25) (.cells #[.int .i64 t.id, .int .i64 t.x, .int .i64 t.y, .int .i64 t.a, .int .i64 t.b] 55)
  have M0 : MB ((w.alloc (.cells #[.int .i64 W, .int .i64 H, tv, bv] 25)).alloc (.cells #[.int .i64 t.id, .int .i64 t.x, .int .i64 t.y, .int .i64 t.a, .int .i64 t.b] 55)) w.heap.size W H tv bv := (Below.heap_alloc _ _ _ (by simp)).trans (heap_alloc_new w _)
  have X0 : Five ((w.alloc (.cells #[.int .i64 W, .int .i64 H, tv, bv] 25)).alloc (.cells #[.int .i64 t.id, .int .i64 t.x, .int .i64 t.y, .int .i64 t.a, .int .i64 t.b] 55)) (w.heap.size + 1) t := by
    have := heap_alloc_new (w.alloc (.cells #[.int .i64 W, .int .i64 H, tv, bv] 25)) (.cells #[.int .i64 t.id, .int .i64 t.x, .int .i64 t.y, .int .i64 t.a, .int .i64 t.b] 55)
    simpa [Five, Bd.cs] using this
  have z0 : ((w.alloc (.cells #[.int .i64 W, .int .i64 H, tv, bv] 25)).alloc (.cells #[.int .i64 t.id, .int .i64 t.x, .int .i64 t.y, .int .i64 t.a, .int .i64 t.b] 55)).heap.size = w.heap.size + 2 := by simp
  obtain ⟨X, hX⟩ : ∃ X, (w.alloc (.cells #[.int .i64 W, .int .i64 H, tv, bv] 25)).alloc (.cells #[.int .i64 t.id, .int .i64 t.x, .int .i64 t.y, .int .i64 t.a, .int .i64 t.b] 55) = X := ⟨_, rfl⟩
  rw [hX] at B0 M0 X0 z0
  obtain ⟨hmt, -⟩ := chkC_zero hc
  have HM := hide (made_good W H tv bv lv tl L K X (hv.kept B0) hb (hl.kept B0) ht hL (hK.kept B0) hc)
  have HA : Hid (∀ wx, Calls Try.prog 10 #[] wx fun e w' => e = .returned (.bool true) ∧ Below wx.heap.size wx w') := hide awake_any
  have HT := hide hmt
  have HTb := hide hb
  obtain ⟨a1, cap1, rfl, -⟩ := hv
  obtain ⟨a2, cap2, rfl, -⟩ := hl
  obtain ⟨a3, cap3, rfl, -⟩ := hK
  clear hc hb hmt
  obtain ⟨m0, m1, m2, m3⟩ := M0.c
  go_enter Try.func6, Try.ntmps6
  go_wp2_with fail
  refine HM.out.mono ?_
  rintro e w1 ⟨p, r, rfl, n, hM, hn⟩
  obtain ⟨-, ⟨l, es, bm, n', tv', bv', ev, rt, rb, re, h2, h3, h4, h5⟩, h6, h7⟩ := hM
  have X1 : Five w1 (w.heap.size + 1) t := (h6.block _ (by omega)).trans X0
  have lo : ∀ k, (k = p ∨ k = bm ∨ bv'.ownBlock = some k ∨ ev.ownBlock = some k) → X.heap.size + 2 ≤ k ∧ k < w1.heap.size := fun k hk => by
    have l1 := h2.d.lt
    have l2 := h2.f.lt
    have l3 := h2.np
    have l4 := h2.nm
    rcases hk with e | e | e | e
    · omega
    · omega
    · exact ⟨h2.nb k e, (h2.b.lt k e).2⟩
    · exact ⟨h2.ne k e, (h2.e.lt k e).2⟩
  have P1 := h2.pa
  have HB1 := hide (bt B0 h6)
  have Hlo := hide lo
  have HF := hide h3
  have z1 : w.heap.size + 4 ≤ w1.heap.size := by omega
  have hes : (es.length + 2) * 32 ≤ 211106232532992 := by omega
  have hnn : n' + 64 ≤ maxLen := by unfold maxLen; omega
  have hel : (0 : Int) ≤ (es.length : Nat) ∧ ((es.length : Nat) : Int) ≤ 140737488355328 := by omega
  clear hX m0 m1 m2 m3 M0 HM B0 h2 h3 h4 h5 h6 h7 X0 hn lo
  have B2 : Below w1.heap.size w1 (w1.alloc (.cells #[ptr p, ptr r] 30)) := box1 _ _
  have R2 : BB (w1.alloc (.cells #[ptr p, ptr r] 30)) w1.heap.size (ptr p) (ptr r) := heap_alloc_new w1 _
  have P2 := P1.below B2
  have X2 : Five (w1.alloc (.cells #[ptr p, ptr r] 30)) (w.heap.size + 1) t := (B2.block _ (by omega)).trans X1
  have HMap := hide (P2.map HT.out HF.out)
  obtain ⟨c0, c1, -, -⟩ := R2.c
  have z2 : (w1.alloc (.cells #[ptr p, ptr r] 30)).heap.size = w1.heap.size + 1 := by simp
  have HP2 := hide P2
  have HB2 := hide B2
  clear P1 P2 B2
  go_wp2_with fail
  refine HMap.out.mono ?_
  rintro e w3 ⟨b1, d1, b2, d2, rfl, q1, q2, q3, q4, q5⟩
  have B4 : Below w3.heap.size w3 (w3.alloc (.cells #[.int .i64 W, .int .i64 H, .slice b1 tl.length d1, .slice b2 l.length d2] 25)) := box1 _ _
  have T4 : Turns NoB w3 (w3.alloc (.cells #[.int .i64 W, .int .i64 H, .slice b1 tl.length d1, .slice b2 l.length d2] 25)) := Turns.of_below B4
  have U4 : Ub (w3.alloc (.cells #[.int .i64 W, .int .i64 H, .slice b1 tl.length d1, .slice b2 l.length d2] 25)) (w.heap.size + 1) w1.heap.size w3.heap.size t p r W H (.slice b1 tl.length d1) (.slice b2 l.length d2) tl l := by
    have z3 := q3.size
    exact ⟨(B4.block _ (by omega)).trans ((q3.block _ (by omega)).trans X2), (R2.kept q3).kept B4, heap_alloc_new w3 _, q1.kept T4 (fun _ _ => id), q2.kept T4 (fun _ _ => id)⟩
  have P4 := (HP2.out.below q3).below B4
  have z3 := q3.size
  have z4 : (w3.alloc (.cells #[.int .i64 W, .int .i64 H, .slice b1 tl.length d1, .slice b2 l.length d2] 25)).heap.size = w3.heap.size + 1 := by simp
  have HB4 := hide (bt HB2.out (bt q3 B4))
  have o1 : ∀ j, (Value.slice b1 tl.length d1).ownBlock = some j → w1.heap.size < j ∧ j < w3.heap.size := fun j e => by have a := q4 j e; have b := (q1.lt j e).2; omega
  have o2 : ∀ j, (Value.slice b2 l.length d2).ownBlock = some j → w1.heap.size < j ∧ j < w3.heap.size := fun j e => by have a := q5 j e; have b := (q2.lt j e).2; omega
  have ye := U4.cells.2
  obtain ⟨X4, hX4⟩ : ∃ X4, w3.alloc (.cells #[.int .i64 W, .int .i64 H, .slice b1 tl.length d1, .slice b2 l.length d2] 25) = X4 := ⟨_, rfl⟩
  rw [hX4] at U4 P4 HB4 z4
  have HUT : Hid (∀ wx, Turns (Mid (X.heap.size + 2) w1.heap.size X4) X4 wx → Ub wx (w.heap.size + 1) w1.heap.size w3.heap.size t p r W H (.slice b1 tl.length d1) (.slice b2 l.length d2) tl l) := hide fun wx T => by
    refine U4.turn T ?_ ?_ ?_ (fun j e => ?_) (fun j e => ?_)
    · rintro (q | q)
      · have := HB1.out.size; omega
      · omega
    · rintro (q | q) <;> omega
    · rintro (q | q) <;> omega
    · have := o1 j e
      rintro (q | q) <;> omega
    · have := o2 j e
      rintro (q | q) <;> omega
  have HEp := hide (epoch_world p bm W H tv' bv' ev es X4 P4.d P4.e)
  have HE4 := hide hX4
  have HU4 := hide U4
  have HP4 := hide P4
  obtain ⟨⟨y0, y1, y2, y3, y4⟩, y5⟩ := U4.cells
  clear HMap c0 c1 q1 q2 q3 q4 q5 B4 T4 U4 P4 X1 X2 R2 z2 z3 z4 HP2 HB2 o1 o2 hX4
  go_wp2_with fail
  rw [HE4.out]
  refine HEp.out.mono ?_
  rintro e Z ⟨rfl, hz⟩
  rw [hz]
  clear HEp ye HE4 hz Z
  have hcr := code_ref W H l t
  by_cases hc : code W H (whoF l) l t = 0
  · have HU := hide (undo_yes (N := X.heap.size + 2) (M := w1.heap.size) X4 t HP4.out Hlo.out HF.out hnn hes hc)
    clear hc hcr Hlo
    go_wp2_with fail
    refine HU.out.mono ?_
    rintro e w5 ⟨rfl, T5, hR⟩
    have HR := hide hR
    have U5 := HUT.out _ T5
    clear HU hR y0 y1 y2 y3 y4 y5 T5
    obtain ⟨⟨y0, y1, y2, y3, y4⟩, y5⟩ := U5.cells
    clear U5
    go_wp2_with fail
    refine HR.out.mono ?_
    rintro e w6 ⟨rfl, T6, bv2, ev2, P6⟩
    have U6 := HUT.out _ T6
    have zX := (bt HB1.out HB4.out).size
    have B6 : Below w.heap.size w w6 := (bt HB1.out HB4.out).trans (T6.below (fun k q => by rcases q with q | q <;> omega) zX)
    have F7 : Four (w6.alloc (.cells #[.int .i64 t.x, .int .i64 t.y, .int .i64 t.a, .int .i64 t.b] 43)) w6.heap.size t.x t.y t.a t.b := cells4 (Below.refl _ _)
    have B7 : Below w6.heap.size w6 (w6.alloc (.cells #[.int .i64 t.x, .int .i64 t.y, .int .i64 t.a, .int .i64 t.b] 43)) := box1 _ _
    have U7 := U6.kept B7
    have P7 := P6.below B7
    have HEp := hide (epoch_world p bm W H tv' bv2 ev2 _ _ P7.d P7.e)
    rw [show (((es ++ [t.foot] ++ [t.foot]).length : Nat) : Int) = (es.length : Nat) + 2 by simp] at HEp
    have HMp := hide (P7.map HT.out HF.out)
    have HPM := hide P7
    have HUM := hide U7
    have HBM := hide (bt B6 B7)
    clear HR y0 y1 y2 y3 y4 y5 T6 U6 P6 P7 B6 B7 zX
    obtain ⟨⟨y0, y1, y2, y3, y4⟩, y5⟩ := U7.cells
    obtain ⟨⟨g0, g1, g2, g3⟩, -, -⟩ := F7
    clear U7
    go_wp2_with fail
    refine HEp.out.mono ?_
    rintro e Z ⟨rfl, hz⟩
    rw [hz]
    clear hz Z HEp
    go_wp2_with fail
    refine HMp.out.mono ?_
    rintro e v3 ⟨e1, k1, e2, k2, rfl, q1, q2, q3, q4, q5⟩
    have HNw := hide (newp_ok q1.r HTb.out q2.r (fine_chk HF.out HT.out))
    have HQ3 := hide q3
    clear HMp q1 q2 q3 q4 q5
    go_wp2_with fail
    refine HNw.out.mono ?_
    rintro e v4 ⟨p2, rfl, hm4⟩
    obtain ⟨⟨bm2, n2, tv2, bv2', PN⟩, hb4⟩ := hm4.pa HF.out HT.out
    have UN := (HUM.out.kept HQ3.out).kept hb4
    have PM := (HPM.out.below HQ3.out).below hb4
    have HBN := hide (bt HBM.out (bt HQ3.out hb4))
    have HM1 : Hid (∀ wx, Below v4.heap.size v4 wx → Calls Try.prog 21 #[ptr p] wx (Mapped wx W H tl l)) := hide fun wx hx => (PM.below hx).map HT.out HF.out
    have HM2 : Hid (∀ wx, Below v4.heap.size v4 wx → Calls Try.prog 21 #[ptr p2] wx (Mapped wx W H tl l)) := hide fun wx hx => (PN.below hx).map HT.out HF.out
    have HEn : Hid (∀ wx, Below v4.heap.size v4 wx → Calls Try.prog 25 #[ptr p2] wx fun e w' => e = .returned (.int .i64 0) ∧ w' = wx) := hide fun wx hx => epoch_world p2 bm2 W H tv2 bv2' _ [] wx (PN.below hx).d (PN.below hx).e
    have HSm : Hid (∀ wx, Below v4.heap.size v4 wx → ∀ tv' bv', Tls wx tv' tl → Bds wx bv' l → Calls Try.prog 27 #[mp W H tv' bv', mp W H (.slice b1 tl.length d1) (.slice b2 l.length d2)] wx fun e w' => e = .returned (.bool true) ∧ Below wx.heap.size wx w') := hide fun wx hx tv' bv' h1 h2 => (UN.kept hx).same tv' bv' h1 h2
    have HS : Hid (∀ wx, Below v4.heap.size v4 wx → wx.cell? ⟨w1.heap.size, 0, none⟩ = some (ptr p) ∧ wx.cell? ⟨w3.heap.size, 0, none⟩ = some (.int .i64 W) ∧ wx.cell? ⟨w3.heap.size, 1, none⟩ = some (.int .i64 H) ∧ wx.cell? ⟨w3.heap.size, 2, none⟩ = some (.slice b1 tl.length d1) ∧ wx.cell? ⟨w3.heap.size, 3, none⟩ = some (.slice b2 l.length d2)) := hide fun wx hx => (UN.kept hx).s
    clear HNw hm4 hb4 PN UN PM HUM HPM HBM HQ3 y0 y1 y2 y3 y4 y5
    go_wp2_with fail
    refine wp_only ?_
    refine wp_region_held_drew (S := fun wx => wx.cell? ⟨w1.heap.size, 0, none⟩ = some (ptr p) ∧ wx.cell? ⟨w3.heap.size, 0, none⟩ = some (.int .i64 W) ∧ wx.cell? ⟨w3.heap.size, 1, none⟩ = some (.int .i64 H) ∧ wx.cell? ⟨w3.heap.size, 2, none⟩ = some (.slice b1 tl.length d1) ∧ wx.cell? ⟨w3.heap.size, 3, none⟩ = some (.slice b2 l.length d2)) (by kernel_rfl) (HS.out _ (Below.refl _ _).drew) (fun hHeld => ?_)
    refine wpAnyH_take (i := 0) (v := ?_) rfl (by kernel_rfl) (by kernel_rfl) (by kernel_rfl) (fun _ _ _ h => h.elim) (Or.inl ⟨by rfl, ?_⟩) (by assumption) ?_
    rotate_left
    · intro wx hSw
      try dsimp only at hSw
      go_simp
      try with_reducible rfl
    try simp only [Act.put, List.getElem_toArray, List.getElem_cons_zero, List.getElem_cons_succ, List.setIfInBounds_toArray, List.set_cons_zero, List.set_cons_succ]
    refine wpAnyH_take (i := 1) (v := ?_) rfl (by kernel_rfl) (by kernel_rfl) (by kernel_rfl) (fun _ _ _ h => h.elim) (Or.inl ⟨by rfl, ?_⟩) (by assumption) ?_
    rotate_left
    · intro wx hSw
      try dsimp only at hSw
      go_simp
      try with_reducible rfl
    try simp only [Act.put, List.getElem_toArray, List.getElem_cons_zero, List.getElem_cons_succ, List.setIfInBounds_toArray, List.set_cons_zero, List.set_cons_succ]
    refine wpAnyH_take (i := 3) (v := ?_) rfl (by kernel_rfl) (by kernel_rfl) (by kernel_rfl) (fun _ _ _ h => h.elim) (Or.inl ⟨by rfl, ?_⟩) (by assumption) ?_
    rotate_left
    · intro wx hSw
      try dsimp only at hSw
      go_simp
      try with_reducible rfl
    try simp only [Act.put, List.getElem_toArray, List.getElem_cons_zero, List.getElem_cons_succ, List.setIfInBounds_toArray, List.set_cons_zero, List.set_cons_succ]
    refine wpAnyH_ready (rs := [2]) (by kernel_rfl) (by simp) ?_
    refine AllReadyH.cons rfl (fun K hK => ?_) ?_
    · go_simp
      refine (HM1.out _ (Below.refl _ _).drew).mono ?_
      rintro e z1 ⟨f1, r1, f2, r2, rfl, s1, s2, s3, -, -⟩
      have hX1 : Below v4.heap.size v4 z1 := below_undrew s3
      have HQ1 := hide s1
      have HQ2 := hide s2
      clear s1 s2 s3
      try go_wp2_with fail
      refine hK.out _ _ ?_ (fun hHeld => ?_)
      · first | exact HS.out _ (Below.refl _ _).drew | exact HS.out _ hX1 | exact HS.out _ hX2 | exact HS.out _ hX3 | exact HS.out _ hX4 | exact HS.out _ hX5 | exact HS.out _ hX6
      clear hK K
      try simp only [Act.put, List.getElem_toArray, List.getElem_cons_zero, List.getElem_cons_succ, List.setIfInBounds_toArray, List.set_cons_zero, List.set_cons_succ]
      refine wpAnyH_ready (rs := [4]) (by kernel_rfl) (by simp) ?_
      refine AllReadyH.cons rfl (fun K hK => ?_) ?_
      · go_simp
        refine (HSm.out _ hX1 _ _ HQ1.out HQ2.out).mono ?_
        rintro e z2 ⟨rfl, s3⟩
        have hX2 : Below v4.heap.size v4 z2 := bt hX1 s3
        clear s3
        try go_wp2_with fail
        refine hK.out _ _ ?_ (fun hHeld => ?_)
        · first | exact HS.out _ (Below.refl _ _).drew | exact HS.out _ hX1 | exact HS.out _ hX2 | exact HS.out _ hX3 | exact HS.out _ hX4 | exact HS.out _ hX5 | exact HS.out _ hX6
        clear hK K
        try simp only [Act.put, List.getElem_toArray, List.getElem_cons_zero, List.getElem_cons_succ, List.setIfInBounds_toArray, List.set_cons_zero, List.set_cons_succ]
        refine wpAnyH_take (i := 5) (v := ?_) rfl (by kernel_rfl) (by kernel_rfl) (by kernel_rfl) (fun _ _ _ h => h.elim) (Or.inl ⟨by rfl, ?_⟩) (by assumption) ?_
        rotate_left
        · intro wx hSw
          try dsimp only at hSw
          go_simp
          try with_reducible rfl
        try simp only [Act.put, List.getElem_toArray, List.getElem_cons_zero, List.getElem_cons_succ, List.setIfInBounds_toArray, List.set_cons_zero, List.set_cons_succ]
        refine wpAnyH_take (i := 6) (v := ?_) rfl (by kernel_rfl) (by kernel_rfl) (by kernel_rfl) (fun _ _ _ h => h.elim) (Or.inl ⟨by rfl, ?_⟩) (by assumption) ?_
        rotate_left
        · intro wx hSw
          try dsimp only at hSw
          go_simp
          try with_reducible rfl
        try simp only [Act.put, List.getElem_toArray, List.getElem_cons_zero, List.getElem_cons_succ, List.setIfInBounds_toArray, List.set_cons_zero, List.set_cons_succ]
        refine wpAnyH_take (i := 7) (v := ?_) rfl (by kernel_rfl) (by kernel_rfl) (by kernel_rfl) (fun _ _ _ h => h.elim) (Or.inl ⟨by rfl, ?_⟩) (by assumption) ?_
        rotate_left
        · intro wx hSw
          try dsimp only at hSw
          go_simp
          try with_reducible rfl
        try simp only [Act.put, List.getElem_toArray, List.getElem_cons_zero, List.getElem_cons_succ, List.setIfInBounds_toArray, List.set_cons_zero, List.set_cons_succ]
        refine wpAnyH_take (i := 8) (v := ?_) rfl (by kernel_rfl) (by kernel_rfl) (by kernel_rfl) (fun _ _ _ h => h.elim) (Or.inl ⟨by rfl, ?_⟩) (by assumption) ?_
        rotate_left
        · intro wx hSw
          try dsimp only at hSw
          go_simp
          try with_reducible rfl
        try simp only [Act.put, List.getElem_toArray, List.getElem_cons_zero, List.getElem_cons_succ, List.setIfInBounds_toArray, List.set_cons_zero, List.set_cons_succ]
        refine wpAnyH_take (i := 9) (v := ?_) rfl (by kernel_rfl) (by kernel_rfl) (by kernel_rfl) (fun _ _ _ h => h.elim) (Or.inl ⟨by rfl, ?_⟩) (by assumption) ?_
        rotate_left
        · intro wx hSw
          try dsimp only at hSw
          go_simp
          try with_reducible rfl
        try simp only [Act.put, List.getElem_toArray, List.getElem_cons_zero, List.getElem_cons_succ, List.setIfInBounds_toArray, List.set_cons_zero, List.set_cons_succ]
        refine wpAnyH_take (i := 10) (v := ?_) rfl (by kernel_rfl) (by kernel_rfl) (by kernel_rfl) (fun _ _ _ h => h.elim) (Or.inl ⟨by rfl, ?_⟩) (by assumption) ?_
        rotate_left
        · intro wx hSw
          try dsimp only at hSw
          go_simp
          try with_reducible rfl
        try simp only [Act.put, List.getElem_toArray, List.getElem_cons_zero, List.getElem_cons_succ, List.setIfInBounds_toArray, List.set_cons_zero, List.set_cons_succ]
        refine wpAnyH_take (i := 11) (v := ?_) rfl (by kernel_rfl) (by kernel_rfl) (by kernel_rfl) (fun _ _ _ h => h.elim) (Or.inl ⟨by rfl, ?_⟩) (by assumption) ?_
        rotate_left
        · intro wx hSw
          try dsimp only at hSw
          go_simp
          try with_reducible rfl
        try simp only [Act.put, List.getElem_toArray, List.getElem_cons_zero, List.getElem_cons_succ, List.setIfInBounds_toArray, List.set_cons_zero, List.set_cons_succ]
        refine wpAnyH_take (i := 12) (v := ?_) rfl (by kernel_rfl) (by kernel_rfl) (by kernel_rfl) (fun _ _ _ h => h.elim) (Or.inl ⟨by rfl, ?_⟩) (by assumption) ?_
        rotate_left
        · intro wx hSw
          try dsimp only at hSw
          go_simp
          try with_reducible rfl
        try simp only [Act.put, List.getElem_toArray, List.getElem_cons_zero, List.getElem_cons_succ, List.setIfInBounds_toArray, List.set_cons_zero, List.set_cons_succ]
        refine wpAnyH_take (i := 13) (v := ?_) rfl (by kernel_rfl) (by kernel_rfl) (by kernel_rfl) (fun _ _ _ h => h.elim) (Or.inl ⟨by rfl, ?_⟩) (by assumption) ?_
        rotate_left
        · intro wx hSw
          try dsimp only at hSw
          go_simp
          try with_reducible rfl
        try simp only [Act.put, List.getElem_toArray, List.getElem_cons_zero, List.getElem_cons_succ, List.setIfInBounds_toArray, List.set_cons_zero, List.set_cons_succ]
        refine wpAnyH_take (i := 14) (v := ?_) rfl (by kernel_rfl) (by kernel_rfl) (by kernel_rfl) (fun _ _ _ h => h.elim) (Or.inl ⟨by rfl, ?_⟩) (by assumption) ?_
        rotate_left
        · intro wx hSw
          try dsimp only at hSw
          go_simp
          try with_reducible rfl
        try simp only [Act.put, List.getElem_toArray, List.getElem_cons_zero, List.getElem_cons_succ, List.setIfInBounds_toArray, List.set_cons_zero, List.set_cons_succ]
        refine wpAnyH_take (i := 16) (v := ?_) rfl (by kernel_rfl) (by kernel_rfl) (by kernel_rfl) (fun _ _ _ h => h.elim) (Or.inl ⟨by rfl, ?_⟩) (by assumption) ?_
        rotate_left
        · intro wx hSw
          try dsimp only at hSw
          go_simp
          try with_reducible rfl
        try simp only [Act.put, List.getElem_toArray, List.getElem_cons_zero, List.getElem_cons_succ, List.setIfInBounds_toArray, List.set_cons_zero, List.set_cons_succ]
        refine wpAnyH_ready (rs := [15]) (by kernel_rfl) (by simp) ?_
        refine AllReadyH.cons rfl (fun K hK => ?_) ?_
        · go_simp
          refine (HM2.out _ hX2).mono ?_
          rintro e z3 ⟨f3, r3, f4, r4, rfl, s1, s2, s3, -, -⟩
          have hX3 : Below v4.heap.size v4 z3 := bt hX2 s3
          have HQ3 := hide s1
          have HQ4 := hide s2
          clear s1 s2 s3
          try go_wp2_with fail
          refine hK.out _ _ ?_ (fun hHeld => ?_)
          · first | exact HS.out _ (Below.refl _ _).drew | exact HS.out _ hX1 | exact HS.out _ hX2 | exact HS.out _ hX3 | exact HS.out _ hX4 | exact HS.out _ hX5 | exact HS.out _ hX6
          clear hK K
          try simp only [Act.put, List.getElem_toArray, List.getElem_cons_zero, List.getElem_cons_succ, List.setIfInBounds_toArray, List.set_cons_zero, List.set_cons_succ]
          refine wpAnyH_ready (rs := [17]) (by kernel_rfl) (by simp) ?_
          refine AllReadyH.cons rfl (fun K hK => ?_) ?_
          · go_simp
            refine (HSm.out _ hX3 _ _ HQ3.out HQ4.out).mono ?_
            rintro e z4 ⟨rfl, s3⟩
            have hX4 : Below v4.heap.size v4 z4 := bt hX3 s3
            clear s3
            try go_wp2_with fail
            refine hK.out _ _ ?_ (fun hHeld => ?_)
            · first | exact HS.out _ (Below.refl _ _).drew | exact HS.out _ hX1 | exact HS.out _ hX2 | exact HS.out _ hX3 | exact HS.out _ hX4 | exact HS.out _ hX5 | exact HS.out _ hX6
            clear hK K
            try simp only [Act.put, List.getElem_toArray, List.getElem_cons_zero, List.getElem_cons_succ, List.setIfInBounds_toArray, List.set_cons_zero, List.set_cons_succ]
            refine wpAnyH_take (i := 18) (v := ?_) rfl (by kernel_rfl) (by kernel_rfl) (by kernel_rfl) (fun _ _ _ h => h.elim) (Or.inl ⟨by rfl, ?_⟩) (by assumption) ?_
            rotate_left
            · intro wx hSw
              try dsimp only at hSw
              go_simp
              try with_reducible rfl
            try simp only [Act.put, List.getElem_toArray, List.getElem_cons_zero, List.getElem_cons_succ, List.setIfInBounds_toArray, List.set_cons_zero, List.set_cons_succ]
            refine wpAnyH_take (i := 19) (v := ?_) rfl (by kernel_rfl) (by kernel_rfl) (by kernel_rfl) (fun _ _ _ h => h.elim) (Or.inl ⟨by rfl, ?_⟩) (by assumption) ?_
            rotate_left
            · intro wx hSw
              try dsimp only at hSw
              go_simp
              try with_reducible rfl
            try simp only [Act.put, List.getElem_toArray, List.getElem_cons_zero, List.getElem_cons_succ, List.setIfInBounds_toArray, List.set_cons_zero, List.set_cons_succ]
            refine wpAnyH_take (i := 20) (v := ?_) rfl (by kernel_rfl) (by kernel_rfl) (by kernel_rfl) (fun _ _ _ h => h.elim) (Or.inl ⟨by rfl, ?_⟩) (by assumption) ?_
            rotate_left
            · intro wx hSw
              try dsimp only at hSw
              go_simp
              try with_reducible rfl
            try simp only [Act.put, List.getElem_toArray, List.getElem_cons_zero, List.getElem_cons_succ, List.setIfInBounds_toArray, List.set_cons_zero, List.set_cons_succ]
            refine wpAnyH_ready (rs := [21]) (by kernel_rfl) (by simp) ?_
            refine AllReadyH.cons rfl (fun K hK => ?_) ?_
            · go_simp
              refine (HEn.out _ hX4).mono ?_
              rintro e z5 ⟨rfl, hz5⟩
              have hX5 : Below v4.heap.size v4 z5 := hz5 ▸ hX4
              clear hz5
              try go_wp2_with fail
              refine hK.out _ _ ?_ (fun hHeld => ?_)
              · first | exact HS.out _ (Below.refl _ _).drew | exact HS.out _ hX1 | exact HS.out _ hX2 | exact HS.out _ hX3 | exact HS.out _ hX4 | exact HS.out _ hX5 | exact HS.out _ hX6
              clear hK K
              try simp only [Act.put, List.getElem_toArray, List.getElem_cons_zero, List.getElem_cons_succ, List.setIfInBounds_toArray, List.set_cons_zero, List.set_cons_succ]
              refine wpAnyH_take (i := 22) (v := ?_) rfl (by kernel_rfl) (by kernel_rfl) (by kernel_rfl) (fun _ _ _ h => h.elim) (Or.inl ⟨by rfl, ?_⟩) (by assumption) ?_
              rotate_left
              · intro wx hSw
                try dsimp only at hSw
                go_simp
                try with_reducible rfl
              try simp only [Act.put, List.getElem_toArray, List.getElem_cons_zero, List.getElem_cons_succ, List.setIfInBounds_toArray, List.set_cons_zero, List.set_cons_succ]
              refine wpAnyH_take (i := 23) (v := ?_) rfl (by kernel_rfl) (by kernel_rfl) (by kernel_rfl) (fun _ _ _ h => h.elim) (Or.inl ⟨by rfl, ?_⟩) (by assumption) ?_
              rotate_left
              · intro wx hSw
                try dsimp only at hSw
                go_simp
                try with_reducible rfl
              try simp only [Act.put, List.getElem_toArray, List.getElem_cons_zero, List.getElem_cons_succ, List.setIfInBounds_toArray, List.set_cons_zero, List.set_cons_succ]
              refine wpAnyH_take (i := 24) (v := ?_) rfl (by kernel_rfl) (by kernel_rfl) (by kernel_rfl) (fun _ _ _ h => h.elim) (Or.inl ⟨by rfl, ?_⟩) (by assumption) ?_
              rotate_left
              · intro wx hSw
                try dsimp only at hSw
                go_simp
                try with_reducible rfl
              try simp only [Act.put, List.getElem_toArray, List.getElem_cons_zero, List.getElem_cons_succ, List.setIfInBounds_toArray, List.set_cons_zero, List.set_cons_succ]
              refine wpAnyH_ready (rs := [25]) (by kernel_rfl) (by simp) ?_
              refine AllReadyH.cons rfl (fun K hK => ?_) ?_
              · go_simp
                refine (HA.out _).mono ?_
                rintro e z6 ⟨rfl, s3⟩
                have hX6 : Below v4.heap.size v4 z6 := bt hX5 s3
                clear s3
                try go_wp2_with fail
                refine hK.out _ _ ?_ (fun hHeld => ?_)
                · first | exact HS.out _ (Below.refl _ _).drew | exact HS.out _ hX1 | exact HS.out _ hX2 | exact HS.out _ hX3 | exact HS.out _ hX4 | exact HS.out _ hX5 | exact HS.out _ hX6
                clear hK K
                try simp only [Act.put, List.getElem_toArray, List.getElem_cons_zero, List.getElem_cons_succ, List.setIfInBounds_toArray, List.set_cons_zero, List.set_cons_succ]
                refine wpAnyH_take (i := 26) (v := ?_) rfl (by kernel_rfl) (by kernel_rfl) (by kernel_rfl) (fun _ _ _ h => h.elim) (Or.inl ⟨by rfl, ?_⟩) (by assumption) ?_
                rotate_left
                · intro wx hSw
                  try dsimp only at hSw
                  go_simp
                  try with_reducible rfl
                try simp only [Act.put, List.getElem_toArray, List.getElem_cons_zero, List.getElem_cons_succ, List.setIfInBounds_toArray, List.set_cons_zero, List.set_cons_succ]
                refine wpAnyH_take (i := 27) (v := ?_) rfl (by kernel_rfl) (by kernel_rfl) (by kernel_rfl) (fun _ _ _ h => h.elim) (Or.inl ⟨by rfl, ?_⟩) (by assumption) ?_
                rotate_left
                · intro wx hSw
                  try dsimp only at hSw
                  go_simp
                  try with_reducible rfl
                try simp only [Act.put, List.getElem_toArray, List.getElem_cons_zero, List.getElem_cons_succ, List.setIfInBounds_toArray, List.set_cons_zero, List.set_cons_succ]
                refine wpAnyH_done (by kernel_rfl) ?_ _
                dsimp only [Only, Exit.then]
                go_wp2_with fail
                go_ret
                exact ⟨rfl, bt HBN.out hX6⟩
              exact AllReadyH.nil
            exact AllReadyH.nil
          exact AllReadyH.nil
        exact AllReadyH.nil
      exact AllReadyH.nil
    exact AllReadyH.nil
  · have HU := hide (place_no p bm n' W H tv' bv' ev (whoF l) l t X4 HP4.out.d HP4.out.f HP4.out.b HF.out.sorted HF.out.len hc)
    obtain ⟨cd, hcd⟩ : ∃ cd, code W H (whoF l) l t = cd := ⟨_, rfl⟩
    rw [hcd] at HU hc
    have hcb : (cd == 0) = false := by simp [hc]
    clear hcr Hlo hcd
    go_wp2_with fail
    refine HU.out.mono ?_
    rintro e w5 ⟨rfl, hb5⟩
    have U7 := HU4.out.kept hb5
    have P7 := HP4.out.below hb5
    have HEp := hide (epoch_world p bm W H tv' bv' ev es w5 P7.d P7.e)
    have HMp := hide (P7.map HT.out HF.out)
    have HPM := hide P7
    have HUM := hide U7
    have HBM := hide (bt HB1.out (bt HB4.out hb5))
    clear HU y0 y1 y2 y3 y4 y5 P7 hb5
    obtain ⟨⟨y0, y1, y2, y3, y4⟩, y5⟩ := U7.cells
    clear U7
    go_wp2_with fail
    refine HEp.out.mono ?_
    rintro e Z ⟨rfl, hz⟩
    rw [hz]
    clear hz Z HEp
    go_wp2_with fail
    refine HMp.out.mono ?_
    rintro e v3 ⟨e1, k1, e2, k2, rfl, q1, q2, q3, q4, q5⟩
    have HNw := hide (newp_ok q1.r HTb.out q2.r (fine_chk HF.out HT.out))
    have HQ3 := hide q3
    clear HMp q1 q2 q3 q4 q5
    go_wp2_with fail
    refine HNw.out.mono ?_
    rintro e v4 ⟨p2, rfl, hm4⟩
    obtain ⟨⟨bm2, n2, tv2, bv2', PN⟩, hb4⟩ := hm4.pa HF.out HT.out
    have UN := (HUM.out.kept HQ3.out).kept hb4
    have PM := (HPM.out.below HQ3.out).below hb4
    have HBN := hide (bt HBM.out (bt HQ3.out hb4))
    have HM1 : Hid (∀ wx, Below v4.heap.size v4 wx → Calls Try.prog 21 #[ptr p] wx (Mapped wx W H tl l)) := hide fun wx hx => (PM.below hx).map HT.out HF.out
    have HM2 : Hid (∀ wx, Below v4.heap.size v4 wx → Calls Try.prog 21 #[ptr p2] wx (Mapped wx W H tl l)) := hide fun wx hx => (PN.below hx).map HT.out HF.out
    have HEn : Hid (∀ wx, Below v4.heap.size v4 wx → Calls Try.prog 25 #[ptr p2] wx fun e w' => e = .returned (.int .i64 0) ∧ w' = wx) := hide fun wx hx => epoch_world p2 bm2 W H tv2 bv2' _ [] wx (PN.below hx).d (PN.below hx).e
    have HSm : Hid (∀ wx, Below v4.heap.size v4 wx → ∀ tv' bv', Tls wx tv' tl → Bds wx bv' l → Calls Try.prog 27 #[mp W H tv' bv', mp W H (.slice b1 tl.length d1) (.slice b2 l.length d2)] wx fun e w' => e = .returned (.bool true) ∧ Below wx.heap.size wx w') := hide fun wx hx tv' bv' h1 h2 => (UN.kept hx).same tv' bv' h1 h2
    have HS : Hid (∀ wx, Below v4.heap.size v4 wx → wx.cell? ⟨w1.heap.size, 0, none⟩ = some (ptr p) ∧ wx.cell? ⟨w3.heap.size, 0, none⟩ = some (.int .i64 W) ∧ wx.cell? ⟨w3.heap.size, 1, none⟩ = some (.int .i64 H) ∧ wx.cell? ⟨w3.heap.size, 2, none⟩ = some (.slice b1 tl.length d1) ∧ wx.cell? ⟨w3.heap.size, 3, none⟩ = some (.slice b2 l.length d2)) := hide fun wx hx => (UN.kept hx).s
    clear HNw hm4 hb4 PN UN PM HUM HPM HBM HQ3 y0 y1 y2 y3 y4 y5
    go_wp2_with fail
    refine wp_only ?_
    refine wp_region_held_drew (S := fun wx => wx.cell? ⟨w1.heap.size, 0, none⟩ = some (ptr p) ∧ wx.cell? ⟨w3.heap.size, 0, none⟩ = some (.int .i64 W) ∧ wx.cell? ⟨w3.heap.size, 1, none⟩ = some (.int .i64 H) ∧ wx.cell? ⟨w3.heap.size, 2, none⟩ = some (.slice b1 tl.length d1) ∧ wx.cell? ⟨w3.heap.size, 3, none⟩ = some (.slice b2 l.length d2)) (by kernel_rfl) (HS.out _ (Below.refl _ _).drew) (fun hHeld => ?_)
    refine wpAnyH_take (i := 0) (v := ?_) rfl (by kernel_rfl) (by kernel_rfl) (by kernel_rfl) (fun _ _ _ h => h.elim) (Or.inl ⟨by rfl, ?_⟩) (by assumption) ?_
    rotate_left
    · intro wx hSw
      try dsimp only at hSw
      go_simp
      try with_reducible rfl
    try simp only [Act.put, List.getElem_toArray, List.getElem_cons_zero, List.getElem_cons_succ, List.setIfInBounds_toArray, List.set_cons_zero, List.set_cons_succ]
    refine wpAnyH_take (i := 1) (v := ?_) rfl (by kernel_rfl) (by kernel_rfl) (by kernel_rfl) (fun _ _ _ h => h.elim) (Or.inl ⟨by rfl, ?_⟩) (by assumption) ?_
    rotate_left
    · intro wx hSw
      try dsimp only at hSw
      go_simp
      try with_reducible rfl
    try simp only [Act.put, List.getElem_toArray, List.getElem_cons_zero, List.getElem_cons_succ, List.setIfInBounds_toArray, List.set_cons_zero, List.set_cons_succ]
    refine wpAnyH_take (i := 3) (v := ?_) rfl (by kernel_rfl) (by kernel_rfl) (by kernel_rfl) (fun _ _ _ h => h.elim) (Or.inl ⟨by rfl, ?_⟩) (by assumption) ?_
    rotate_left
    · intro wx hSw
      try dsimp only at hSw
      go_simp
      try with_reducible rfl
    try simp only [Act.put, List.getElem_toArray, List.getElem_cons_zero, List.getElem_cons_succ, List.setIfInBounds_toArray, List.set_cons_zero, List.set_cons_succ]
    refine wpAnyH_ready (rs := [2]) (by kernel_rfl) (by simp) ?_
    refine AllReadyH.cons rfl (fun K hK => ?_) ?_
    · go_simp
      refine (HM1.out _ (Below.refl _ _).drew).mono ?_
      rintro e z1 ⟨f1, r1, f2, r2, rfl, s1, s2, s3, -, -⟩
      have hX1 : Below v4.heap.size v4 z1 := below_undrew s3
      have HQ1 := hide s1
      have HQ2 := hide s2
      clear s1 s2 s3
      try go_wp2_with fail
      refine hK.out _ _ ?_ (fun hHeld => ?_)
      · first | exact HS.out _ (Below.refl _ _).drew | exact HS.out _ hX1 | exact HS.out _ hX2 | exact HS.out _ hX3 | exact HS.out _ hX4 | exact HS.out _ hX5 | exact HS.out _ hX6
      clear hK K
      try simp only [Act.put, List.getElem_toArray, List.getElem_cons_zero, List.getElem_cons_succ, List.setIfInBounds_toArray, List.set_cons_zero, List.set_cons_succ]
      refine wpAnyH_ready (rs := [4]) (by kernel_rfl) (by simp) ?_
      refine AllReadyH.cons rfl (fun K hK => ?_) ?_
      · go_simp
        refine (HSm.out _ hX1 _ _ HQ1.out HQ2.out).mono ?_
        rintro e z2 ⟨rfl, s3⟩
        have hX2 : Below v4.heap.size v4 z2 := bt hX1 s3
        clear s3
        try go_wp2_with fail
        refine hK.out _ _ ?_ (fun hHeld => ?_)
        · first | exact HS.out _ (Below.refl _ _).drew | exact HS.out _ hX1 | exact HS.out _ hX2 | exact HS.out _ hX3 | exact HS.out _ hX4 | exact HS.out _ hX5 | exact HS.out _ hX6
        clear hK K
        try simp only [Act.put, List.getElem_toArray, List.getElem_cons_zero, List.getElem_cons_succ, List.setIfInBounds_toArray, List.set_cons_zero, List.set_cons_succ]
        refine wpAnyH_take (i := 5) (v := ?_) rfl (by kernel_rfl) (by kernel_rfl) (by kernel_rfl) (fun _ _ _ h => h.elim) (Or.inl ⟨by rfl, ?_⟩) (by assumption) ?_
        rotate_left
        · intro wx hSw
          try dsimp only at hSw
          go_simp
          try with_reducible rfl
        try simp only [Act.put, List.getElem_toArray, List.getElem_cons_zero, List.getElem_cons_succ, List.setIfInBounds_toArray, List.set_cons_zero, List.set_cons_succ]
        refine wpAnyH_take (i := 6) (v := ?_) rfl (by kernel_rfl) (by kernel_rfl) (by kernel_rfl) (fun _ _ _ h => h.elim) (Or.inl ⟨by rfl, ?_⟩) (by assumption) ?_
        rotate_left
        · intro wx hSw
          try dsimp only at hSw
          go_simp
          try with_reducible rfl
        try simp only [Act.put, List.getElem_toArray, List.getElem_cons_zero, List.getElem_cons_succ, List.setIfInBounds_toArray, List.set_cons_zero, List.set_cons_succ]
        refine wpAnyH_take (i := 7) (v := ?_) rfl (by kernel_rfl) (by kernel_rfl) (by kernel_rfl) (fun _ _ _ h => h.elim) (Or.inl ⟨by rfl, ?_⟩) (by assumption) ?_
        rotate_left
        · intro wx hSw
          try dsimp only at hSw
          go_simp
          try with_reducible rfl
        try simp only [Act.put, List.getElem_toArray, List.getElem_cons_zero, List.getElem_cons_succ, List.setIfInBounds_toArray, List.set_cons_zero, List.set_cons_succ]
        refine wpAnyH_take (i := 8) (v := ?_) rfl (by kernel_rfl) (by kernel_rfl) (by kernel_rfl) (fun _ _ _ h => h.elim) (Or.inl ⟨by rfl, ?_⟩) (by assumption) ?_
        rotate_left
        · intro wx hSw
          try dsimp only at hSw
          go_simp
          try with_reducible rfl
        try simp only [Act.put, List.getElem_toArray, List.getElem_cons_zero, List.getElem_cons_succ, List.setIfInBounds_toArray, List.set_cons_zero, List.set_cons_succ]
        refine wpAnyH_take (i := 9) (v := ?_) rfl (by kernel_rfl) (by kernel_rfl) (by kernel_rfl) (fun _ _ _ h => h.elim) (Or.inl ⟨by rfl, ?_⟩) (by assumption) ?_
        rotate_left
        · intro wx hSw
          try dsimp only at hSw
          go_simp
          try with_reducible rfl
        try simp only [Act.put, List.getElem_toArray, List.getElem_cons_zero, List.getElem_cons_succ, List.setIfInBounds_toArray, List.set_cons_zero, List.set_cons_succ]
        refine wpAnyH_take (i := 10) (v := ?_) rfl (by kernel_rfl) (by kernel_rfl) (by kernel_rfl) (fun _ _ _ h => h.elim) (Or.inl ⟨by rfl, ?_⟩) (by assumption) ?_
        rotate_left
        · intro wx hSw
          try dsimp only at hSw
          go_simp
          try with_reducible rfl
        try simp only [Act.put, List.getElem_toArray, List.getElem_cons_zero, List.getElem_cons_succ, List.setIfInBounds_toArray, List.set_cons_zero, List.set_cons_succ]
        refine wpAnyH_take (i := 11) (v := ?_) rfl (by kernel_rfl) (by kernel_rfl) (by kernel_rfl) (fun _ _ _ h => h.elim) (Or.inl ⟨by rfl, ?_⟩) (by assumption) ?_
        rotate_left
        · intro wx hSw
          try dsimp only at hSw
          go_simp
          try with_reducible rfl
        try simp only [Act.put, List.getElem_toArray, List.getElem_cons_zero, List.getElem_cons_succ, List.setIfInBounds_toArray, List.set_cons_zero, List.set_cons_succ]
        refine wpAnyH_take (i := 12) (v := ?_) rfl (by kernel_rfl) (by kernel_rfl) (by kernel_rfl) (fun _ _ _ h => h.elim) (Or.inl ⟨by rfl, ?_⟩) (by assumption) ?_
        rotate_left
        · intro wx hSw
          try dsimp only at hSw
          go_simp
          try with_reducible rfl
        try simp only [Act.put, List.getElem_toArray, List.getElem_cons_zero, List.getElem_cons_succ, List.setIfInBounds_toArray, List.set_cons_zero, List.set_cons_succ]
        refine wpAnyH_take (i := 13) (v := ?_) rfl (by kernel_rfl) (by kernel_rfl) (by kernel_rfl) (fun _ _ _ h => h.elim) (Or.inl ⟨by rfl, ?_⟩) (by assumption) ?_
        rotate_left
        · intro wx hSw
          try dsimp only at hSw
          go_simp
          try with_reducible rfl
        try simp only [Act.put, List.getElem_toArray, List.getElem_cons_zero, List.getElem_cons_succ, List.setIfInBounds_toArray, List.set_cons_zero, List.set_cons_succ]
        refine wpAnyH_take (i := 14) (v := ?_) rfl (by kernel_rfl) (by kernel_rfl) (by kernel_rfl) (fun _ _ _ h => h.elim) (Or.inl ⟨by rfl, ?_⟩) (by assumption) ?_
        rotate_left
        · intro wx hSw
          try dsimp only at hSw
          go_simp
          try with_reducible rfl
        try simp only [Act.put, List.getElem_toArray, List.getElem_cons_zero, List.getElem_cons_succ, List.setIfInBounds_toArray, List.set_cons_zero, List.set_cons_succ]
        refine wpAnyH_take (i := 16) (v := ?_) rfl (by kernel_rfl) (by kernel_rfl) (by kernel_rfl) (fun _ _ _ h => h.elim) (Or.inl ⟨by rfl, ?_⟩) (by assumption) ?_
        rotate_left
        · intro wx hSw
          try dsimp only at hSw
          go_simp
          try with_reducible rfl
        try simp only [Act.put, List.getElem_toArray, List.getElem_cons_zero, List.getElem_cons_succ, List.setIfInBounds_toArray, List.set_cons_zero, List.set_cons_succ]
        refine wpAnyH_ready (rs := [15]) (by kernel_rfl) (by simp) ?_
        refine AllReadyH.cons rfl (fun K hK => ?_) ?_
        · go_simp
          refine (HM2.out _ hX2).mono ?_
          rintro e z3 ⟨f3, r3, f4, r4, rfl, s1, s2, s3, -, -⟩
          have hX3 : Below v4.heap.size v4 z3 := bt hX2 s3
          have HQ3 := hide s1
          have HQ4 := hide s2
          clear s1 s2 s3
          try go_wp2_with fail
          refine hK.out _ _ ?_ (fun hHeld => ?_)
          · first | exact HS.out _ (Below.refl _ _).drew | exact HS.out _ hX1 | exact HS.out _ hX2 | exact HS.out _ hX3 | exact HS.out _ hX4 | exact HS.out _ hX5 | exact HS.out _ hX6
          clear hK K
          try simp only [Act.put, List.getElem_toArray, List.getElem_cons_zero, List.getElem_cons_succ, List.setIfInBounds_toArray, List.set_cons_zero, List.set_cons_succ]
          refine wpAnyH_ready (rs := [17]) (by kernel_rfl) (by simp) ?_
          refine AllReadyH.cons rfl (fun K hK => ?_) ?_
          · go_simp
            refine (HSm.out _ hX3 _ _ HQ3.out HQ4.out).mono ?_
            rintro e z4 ⟨rfl, s3⟩
            have hX4 : Below v4.heap.size v4 z4 := bt hX3 s3
            clear s3
            try go_wp2_with fail
            refine hK.out _ _ ?_ (fun hHeld => ?_)
            · first | exact HS.out _ (Below.refl _ _).drew | exact HS.out _ hX1 | exact HS.out _ hX2 | exact HS.out _ hX3 | exact HS.out _ hX4 | exact HS.out _ hX5 | exact HS.out _ hX6
            clear hK K
            try simp only [Act.put, List.getElem_toArray, List.getElem_cons_zero, List.getElem_cons_succ, List.setIfInBounds_toArray, List.set_cons_zero, List.set_cons_succ]
            refine wpAnyH_take (i := 18) (v := ?_) rfl (by kernel_rfl) (by kernel_rfl) (by kernel_rfl) (fun _ _ _ h => h.elim) (Or.inl ⟨by rfl, ?_⟩) (by assumption) ?_
            rotate_left
            · intro wx hSw
              try dsimp only at hSw
              go_simp
              try with_reducible rfl
            try simp only [Act.put, List.getElem_toArray, List.getElem_cons_zero, List.getElem_cons_succ, List.setIfInBounds_toArray, List.set_cons_zero, List.set_cons_succ]
            refine wpAnyH_take (i := 19) (v := ?_) rfl (by kernel_rfl) (by kernel_rfl) (by kernel_rfl) (fun _ _ _ h => h.elim) (Or.inl ⟨by rfl, ?_⟩) (by assumption) ?_
            rotate_left
            · intro wx hSw
              try dsimp only at hSw
              go_simp
              try with_reducible rfl
            try simp only [Act.put, List.getElem_toArray, List.getElem_cons_zero, List.getElem_cons_succ, List.setIfInBounds_toArray, List.set_cons_zero, List.set_cons_succ]
            refine wpAnyH_take (i := 20) (v := ?_) rfl (by kernel_rfl) (by kernel_rfl) (by kernel_rfl) (fun _ _ _ h => h.elim) (Or.inl ⟨by rfl, ?_⟩) (by assumption) ?_
            rotate_left
            · intro wx hSw
              try dsimp only at hSw
              go_simp
              try with_reducible rfl
            try simp only [Act.put, List.getElem_toArray, List.getElem_cons_zero, List.getElem_cons_succ, List.setIfInBounds_toArray, List.set_cons_zero, List.set_cons_succ]
            refine wpAnyH_ready (rs := [21]) (by kernel_rfl) (by simp) ?_
            refine AllReadyH.cons rfl (fun K hK => ?_) ?_
            · go_simp
              refine (HEn.out _ hX4).mono ?_
              rintro e z5 ⟨rfl, hz5⟩
              have hX5 : Below v4.heap.size v4 z5 := hz5 ▸ hX4
              clear hz5
              try go_wp2_with fail
              refine hK.out _ _ ?_ (fun hHeld => ?_)
              · first | exact HS.out _ (Below.refl _ _).drew | exact HS.out _ hX1 | exact HS.out _ hX2 | exact HS.out _ hX3 | exact HS.out _ hX4 | exact HS.out _ hX5 | exact HS.out _ hX6
              clear hK K
              try simp only [Act.put, List.getElem_toArray, List.getElem_cons_zero, List.getElem_cons_succ, List.setIfInBounds_toArray, List.set_cons_zero, List.set_cons_succ]
              refine wpAnyH_take (i := 22) (v := ?_) rfl (by kernel_rfl) (by kernel_rfl) (by kernel_rfl) (fun _ _ _ h => h.elim) (Or.inl ⟨by rfl, ?_⟩) (by assumption) ?_
              rotate_left
              · intro wx hSw
                try dsimp only at hSw
                go_simp
                try with_reducible rfl
              try simp only [Act.put, List.getElem_toArray, List.getElem_cons_zero, List.getElem_cons_succ, List.setIfInBounds_toArray, List.set_cons_zero, List.set_cons_succ]
              refine wpAnyH_take (i := 23) (v := ?_) rfl (by kernel_rfl) (by kernel_rfl) (by kernel_rfl) (fun _ _ _ h => h.elim) (Or.inl ⟨by rfl, ?_⟩) (by assumption) ?_
              rotate_left
              · intro wx hSw
                try dsimp only at hSw
                go_simp
                try with_reducible rfl
              try simp only [Act.put, List.getElem_toArray, List.getElem_cons_zero, List.getElem_cons_succ, List.setIfInBounds_toArray, List.set_cons_zero, List.set_cons_succ]
              refine wpAnyH_take (i := 24) (v := ?_) rfl (by kernel_rfl) (by kernel_rfl) (by kernel_rfl) (fun _ _ _ h => h.elim) (Or.inl ⟨by rfl, ?_⟩) (by assumption) ?_
              rotate_left
              · intro wx hSw
                try dsimp only at hSw
                go_simp
                try with_reducible rfl
              try simp only [Act.put, List.getElem_toArray, List.getElem_cons_zero, List.getElem_cons_succ, List.setIfInBounds_toArray, List.set_cons_zero, List.set_cons_succ]
              refine wpAnyH_ready (rs := [25]) (by kernel_rfl) (by simp) ?_
              refine AllReadyH.cons rfl (fun K hK => ?_) ?_
              · go_simp
                refine (HA.out _).mono ?_
                rintro e z6 ⟨rfl, s3⟩
                have hX6 : Below v4.heap.size v4 z6 := bt hX5 s3
                clear s3
                try go_wp2_with fail
                refine hK.out _ _ ?_ (fun hHeld => ?_)
                · first | exact HS.out _ (Below.refl _ _).drew | exact HS.out _ hX1 | exact HS.out _ hX2 | exact HS.out _ hX3 | exact HS.out _ hX4 | exact HS.out _ hX5 | exact HS.out _ hX6
                clear hK K
                try simp only [Act.put, List.getElem_toArray, List.getElem_cons_zero, List.getElem_cons_succ, List.setIfInBounds_toArray, List.set_cons_zero, List.set_cons_succ]
                refine wpAnyH_take (i := 26) (v := ?_) rfl (by kernel_rfl) (by kernel_rfl) (by kernel_rfl) (fun _ _ _ h => h.elim) (Or.inl ⟨by rfl, ?_⟩) (by assumption) ?_
                rotate_left
                · intro wx hSw
                  try dsimp only at hSw
                  go_simp
                  try with_reducible rfl
                try simp only [Act.put, List.getElem_toArray, List.getElem_cons_zero, List.getElem_cons_succ, List.setIfInBounds_toArray, List.set_cons_zero, List.set_cons_succ]
                refine wpAnyH_take (i := 27) (v := ?_) rfl (by kernel_rfl) (by kernel_rfl) (by kernel_rfl) (fun _ _ _ h => h.elim) (Or.inl ⟨by rfl, ?_⟩) (by assumption) ?_
                rotate_left
                · intro wx hSw
                  try dsimp only at hSw
                  go_simp
                  try with_reducible rfl
                try simp only [Act.put, List.getElem_toArray, List.getElem_cons_zero, List.getElem_cons_succ, List.setIfInBounds_toArray, List.set_cons_zero, List.set_cons_succ]
                refine wpAnyH_done (by kernel_rfl) ?_ _
                dsimp only [Only, Exit.then]
                go_wp2_with fail
                go_ret
                exact ⟨rfl, bt HBN.out hX6⟩
              exact AllReadyH.nil
            exact AllReadyH.nil
          exact AllReadyH.nil
        exact AllReadyH.nil
      exact AllReadyH.nil
    exact AllReadyH.nil
end Go.Proofs.Ytobjadfchpgjeaa
