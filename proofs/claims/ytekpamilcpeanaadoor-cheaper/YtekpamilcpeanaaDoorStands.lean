/-
  A World as the layer asks it, and what a tile carries. Where a shape stands in a World.
-/
import Derived.Test.YtekpamilcpeanaaDoorTerr
import Derived.Test.YtekpamilcpeanaaDoorFoot
import Derived.Test.YtekpamilcpeanaaDoorAsks
namespace Go.Proofs.YtekpamilcpeanaaDoor
open Go.RowKit
set_option linter.unusedVariables false
/-- In block p lies a World of so many tiles; f says which building has which cell. -/
def Wl (w : World) (p : Nat) (W H : Int) (tl : List Nat) (f : Int → Int → Option Int) : Prop :=
  (mt W H tl = true ∧ ∀ n ∈ tl, n < 256) ∧ ∃ (bm n : Nat) (tv bv ev : Value), Wd w p W H tv bv bm ev ∧ Tls w tv tl ∧ Who w bm n f
theorem Wl.kept {w w' : World} {p : Nat} {W H : Int} {tl : List Nat} {f : Int → Int → Option Int} (h : Wl w p W H tl f) (hb : Below w.heap.size w w') : Wl w' p W H tl f := by
  obtain ⟨h0, bm, n, tv, bv, ev, h1, h2, h3⟩ := h
  have T : Turns NoB w w' := Turns.of_below hb
  exact ⟨h0, bm, n, tv, bv, ev, h1.kept T id, h2.kept T (fun _ _ => id), h3.kept T id⟩
def carB (W H : Int) (tl : List Nat) (f : Int → Int → Option Int) (c x y : Int) : Bool := has 0 0 W H x y && (!(f x y).isSome && onB c (terN W H tl x y))
theorem terr_is {w : World} {p : Nat} {W H : Int} {tl : List Nat} {f : Int → Int → Option Int} (x y : Int) {b : Bool} {t : Int} (h : Wl w p W H tl f) (hb : has 0 0 W H x y = b) (ht : terN W H tl x y = t) :
    Calls Tryd.prog 90 #[ptr p, cel x y] w fun e w' => e = .returned (.tuple #[.int .i64 t, .bool b]) ∧ Below w.heap.size w w' := by
  obtain ⟨⟨h0, h00⟩, bm, n, tv, bv, ev, h1, h2, h3⟩ := h
  subst hb; subst ht
  exact terrain_world p bm W H tv bv ev tl x y w h1 h2 h0 h00
theorem at_is {w : World} {p : Nat} {W H : Int} {tl : List Nat} {f : Int → Int → Option Int} (x y : Int) (hx : W64 x) (hy : W64 y) {b : Bool} {t : Int} (h : Wl w p W H tl f) (hb : (f x y).isSome = b) (ht : (f x y).getD 0 = t) :
    Calls Tryd.prog 91 #[ptr p, cel x y] w fun e w' => e = .returned (.tuple #[.int .i64 t, .bool b]) ∧ Below w.heap.size w w' := by
  obtain ⟨⟨h0, h00⟩, bm, n, tv, bv, ev, h1, h2, h3⟩ := h
  subst hb; subst ht
  exact at_world p bm n W H tv bv ev f x y hx hy w h1 h3
set_option maxHeartbeats 1000000 in
theorem carries_any (p : Nat) (W H : Int) (tl : List Nat) (f : Int → Int → Option Int) (c x y : Int) (hx : W64 x) (hy : W64 y) (w : World) (hw : Wl w p W H tl f) (hg : Grnd w) :
    Calls Tryd.prog 73 #[ptr p, .int .i64 c, cel x y] w fun e w' => e = .returned (.bool (carB W H tl f c x y)) ∧ Below w.heap.size w w' := by
  have B0 : Below w.heap.size w (w.alloc (.cells #[.int .i64 x, .int .i64 y] 23)) := box1 _ _
  have HW := hide (hw.kept B0)
  have HG := hide (hg.kept B0)
  obtain ⟨t, ht⟩ : ∃ t, terN W H tl x y = t := ⟨_, rfl⟩
  obtain ⟨i, hi⟩ : ∃ i, (f x y).getD 0 = i := ⟨_, rfl⟩
  cases hb : has 0 0 W H x y <;> cases hs : (f x y).isSome
  all_goals
    have Hb := hide hb
    have Hs := hide hs
    have Ht := hide ht
    have Hi := hide hi
    clear hw hg hb hs ht hi
    go_enter Tryd.func73, Tryd.ntmps73
    go_wp2_with fail
    refine (terr_is x y HW.out Hb.out Ht.out).mono ?_
    rintro e w1 ⟨rfl, hb1⟩
    obtain ⟨⟨c0, c1⟩, -, -⟩ := cells2 hb1
    have H1 := hide hb1
    clear hb1
    go_wp2_with fail
    refine (at_is x y hx hy (HW.out.kept H1.out) Hs.out Hi.out).mono ?_
    rintro e w2 ⟨rfl, hb2⟩
    have H2 := hide hb2
    clear hb2 c0 c1
    go_wp2_with (go_at_call 92; refine (on_any _ _ _ (HG.out.kept (bt H1.out H2.out))).mono ?_; rintro e w3 ⟨rfl, rfl⟩)
    go_ret
    exact ⟨ret_bool (by simp [carB, Hb.out, Hs.out, Ht.out]), bt B0 (bt H1.out H2.out)⟩
end Go.Proofs.YtekpamilcpeanaaDoor
namespace Go.Proofs.YtekpamilcpeanaaDoor
open Go.RowKit Go.Shelf
set_option linter.unusedVariables false
attribute [local go_sem] Oper.semAt_some
def stU (W H : Int) (tl : List Nat) (f : Int → Int → Option Int) (c u v k : Int) : Bool := wi u v k k 0 0 W H && (allC u v k k).all (fun q => carB W H tl f c q.1.1 q.1.2)
/-- Whether a shape stands. -/
def stB (W H : Int) (tl : List Nat) (f : Int → Int → Option Int) (c s x y : Int) : Bool := stU W H tl f c (fi c s x y x) (fi c s x y y) (fi c s x y s)
theorem all_is {w : World} {p : Nat} {W H : Int} {tl : List Nat} {f : Int → Int → Option Int} (h : Wl w p W H tl f) :
    Calls Tryd.prog 72 #[ptr p] w fun e w' => e = .returned (rct 0 0 W H) ∧ Below w.heap.size w w' := by
  obtain ⟨-, bm, n, tv, bv, ev, h1, -, -⟩ := h
  exact all_world p bm W H tv bv ev w h1
theorem Two.upto {n₀ : Nat} {W W' : World} {k : Nat} {u v : Int} (h : Two W k u v) (hB : Below n₀ W W') (hk : k < n₀) : Two W' k u v :=
  ⟨⟨(hB.cell (p := ⟨k, 0, none⟩) hk).trans h.1.1, (hB.cell (p := ⟨k, 1, none⟩) hk).trans h.1.2⟩, ⟨(hB.frozen (p := ⟨k, 0, none⟩) hk).trans h.2.1.1, (hB.frozen (p := ⟨k, 1, none⟩) hk).trans h.2.1.2⟩, Nat.lt_of_lt_of_le h.2.2 hB.size⟩
theorem carries_is {w : World} {p : Nat} {W H : Int} {tl : List Nat} {f : Int → Int → Option Int} {c x y : Int} (hx : W64 x) (hy : W64 y) {b : Bool} (hw : Wl w p W H tl f) (hg : Grnd w) (h : carB W H tl f c x y = b) :
    Calls Tryd.prog 73 #[ptr p, .int .i64 c, cel x y] w fun e w' => e = .returned (.bool b) ∧ Below w.heap.size w w' := by subst h; exact carries_any p W H tl f c x y hx hy w hw hg
abbrev W4 (w : World) (p : Nat) (c s x y : Int) : World := (((w.alloc (.cells #[ptr p] 40)).alloc (.cells #[.int .i64 c, .int .i64 s] 37)).alloc (.cells #[.int .i64 x, .int .i64 y] 23)).alloc (.cells #[.bool false] 4)
theorem w4_below (w : World) (p : Nat) (c s x y : Int) : Below w.heap.size w (W4 w p c s x y) := bt (box2 _ _ _) (box2 _ _ _)
theorem w4_size (w : World) (p : Nat) (c s x y : Int) : (W4 w p c s x y).heap.size = w.heap.size + 4 := by simp
theorem w4_ptr (w : World) (p : Nat) (c s x y : Int) : Boxed (W4 w p c s x y) w.heap.size 40 (ptr p) := (((Boxed.new w 40 (ptr p)).alloc _).alloc _).alloc _
theorem w4_shape (w : World) (p : Nat) (c s x y : Int) : Two (W4 w p c s x y) (w.heap.size + 1) c s := by
  have := ((Two.newAt (w := w.alloc (.cells #[ptr p] 40)) (k := w.heap.size + 1) (u := c) (v := s) (t := 37) (by simp)).alloc (o := .cells #[.int .i64 x, .int .i64 y] 23)).alloc (o := .cells #[.bool false] 4)
  exact this
theorem w4_res (w : World) (p : Nat) (c s x y : Int) : Boxed (W4 w p c s x y) (w.heap.size + 1 + 1 + 1) 4 (.bool false) := by
  have := Boxed.new (((w.alloc (.cells #[ptr p] 40)).alloc (.cells #[.int .i64 c, .int .i64 s] 37)).alloc (.cells #[.int .i64 x, .int .i64 y] 23)) 4 (.bool false)
  simpa using this
set_option maxRecDepth 100000 in
set_option maxHeartbeats 4000000 in
theorem stands_any (p : Nat) (W H : Int) (tl : List Nat) (f : Int → Int → Option Int) (c s x y : Int) (w : World) (hw : Wl w p W H tl f) (hg : Grnd w) :
    Calls Tryd.prog 47 #[ptr p, shv c s, cel x y] w fun e w' => e = .returned (.bool (stB W H tl f c s x y)) ∧ Below w.heap.size w w' := by
  have HF := hide (foot_any c s x y (W4 w p c s x y))
  unfold ftV at HF
  unfold stB
  obtain ⟨u, hu⟩ : ∃ u, fi c s x y x = u := ⟨_, rfl⟩
  obtain ⟨v, hv⟩ : ∃ v, fi c s x y y = v := ⟨_, rfl⟩
  obtain ⟨k, hk⟩ : ∃ k, fi c s x y s = k := ⟨_, rfl⟩
  rw [hu, hv, hk] at HF ⊢
  clear hu hv hk
  have B4 := w4_below w p c s x y
  have z4 := w4_size w p c s x y
  have P4 := w4_ptr w p c s x y
  have S4 := w4_shape w p c s x y
  have R4 := w4_res w p c s x y
  refine (callsIn_wide (n := 10)).1 ?_
  refine callsIn_of_wp_marks Tryd.func47 rfl trivial ?_ rfl
  simp only [Tryd.ntmps47, List.size_toArray, List.length_cons, List.length_nil, Nat.reduceAdd, Nat.reduceSub, Array.replicate_succ, Array.replicate_zero, List.push_toArray, List.append_toArray, List.nil_append, List.cons_append]
  gi_wp2_with fail
  refine ⟨trivial, ?_⟩
  refine (callsIn_wide.2 HF.out).mono ?_
  rintro e w1 ⟨rfl, hb1⟩
  clear HF
  have z1 := hb1.size
  have P1 := boxed_upto P4 hb1 (by omega)
  have S1 := S4.kept hb1
  have R1 := boxed_upto R4 hb1 (by omega)
  have HB1 := hide (bt B4 hb1)
  clear P4 S4 R4 B4 hb1
  gi_wp2_with fail
  have FX : Four (w1.alloc (.cells #[.int .i64 u, .int .i64 v, .int .i64 k, .int .i64 k] 67)) w1.heap.size u v k k := cells4 (Below.refl _ _)
  have BX : Below w1.heap.size w1 (w1.alloc (.cells #[.int .i64 u, .int .i64 v, .int .i64 k, .int .i64 k] 67)) := box1 _ _
  obtain ⟨X, hX⟩ : ∃ X, w1.alloc (.cells #[.int .i64 u, .int .i64 v, .int .i64 k, .int .i64 k] 67) = X := ⟨_, rfl⟩
  have zX : X.heap.size = w1.heap.size + 1 := by rw [← hX]; simp
  rw [hX] at FX BX ⊢
  clear hX
  have TX : ∀ n : Lat X, Below w.heap.size w n.w := fun n => bt (bt HB1.out BX) n.h
  have HK : Hid (∀ n : Lat X, Wl n.w p W H tl f) := hide fun n => hw.kept (TX n)
  have PX := boxed_upto P1 BX P1.lt
  have c0 : ∀ n : Lat X, n.w.cell? ⟨w.heap.size, 0, none⟩ = some (ptr p) := fun n => (n.h.cell (p := ⟨w.heap.size, 0, none⟩) PX.lt).trans PX.cell
  obtain ⟨d0, d1, d2, d3⟩ := FX.lat
  have hne := lat_some X
  cases hi : wi u v k k 0 0 W H
  · have HI := hide hi
    clear hi
    gi_wp2_with fail
    refine wpIn_region_lat (by kernel_rfl) (by kernel_rfl) (by kernel_rfl) ?_
    repeat (refine wpQuietIn_step (fun _ _ _ _ => trivial) (fun K hK => ?_); go_simp; first | (refine hK _ ?_; clear hK K) | (apply Exists.intro; refine ⟨fun _ => ?_, hK _ ?_⟩; first | exact callsIn_lat (callsIn_wide.2 (all_is (HK.out _))) | exact callsIn_lat (callsIn_wide.2 (within_is _ HI.out)); clear hK K))
    refine wpQuietIn_nil ?_
    rintro _ ⟨n, rfl⟩
    have bR := boxed_upto (boxed_upto R1 BX R1.lt) n.h (by omega)
    have cR := bR.cell
    have fR := bR.frozen
    gi_wp2_with fail
    have hB := TX n
    refine ⟨.bool false, by simp [results, Tryd.f47, go_sem, cR], by simp [stU, HI.out], hB.setCell (p := ⟨w.heap.size + 1 + 1 + 1, 0, none⟩) (by simp; omega) _⟩
  · have HI := hide hi
    clear hi
    gi_wp2_with fail
    refine wpIn_region_lat (by kernel_rfl) (by kernel_rfl) (by kernel_rfl) ?_
    repeat (refine wpQuietIn_step (fun _ _ _ _ => trivial) (fun K hK => ?_); go_simp; first | (refine hK _ ?_; clear hK K) | (apply Exists.intro; refine ⟨fun _ => ?_, hK _ ?_⟩; first | exact callsIn_lat (callsIn_wide.2 (all_is (HK.out _))) | exact callsIn_lat (callsIn_wide.2 (within_is _ HI.out)); clear hK K))
    refine wpQuietIn_nil ?_
    rintro _ ⟨n, rfl⟩
    have hY := TX n
    obtain ⟨⟨g0, g1, g2, g3⟩, -, gz⟩ := Four.kept FX n.h
    gi_wp2_with fail
    refine ⟨trivial, ?_⟩
    refine (callsIn_wide.2 (cells_any _ _ _ _ _)).mono ?_
    rintro e w3 ⟨rfl, rfl⟩
    have zY := n.h.size
    have F0 : Four (n.w.alloc (.cells #[.int .i64 u, .int .i64 v, .int .i64 k, .int .i64 k] 67)) n.w.heap.size u v k k := cells4 (Below.refl _ _)
    have BY : Below n.w.heap.size n.w (n.w.alloc (.cells #[.int .i64 u, .int .i64 v, .int .i64 k, .int .i64 k] 67)) := box1 _ _
    have hsz : (n.w.alloc (.cells #[.int .i64 u, .int .i64 v, .int .i64 k, .int .i64 k] 67)).heap.size = n.w.heap.size + 1 := by simp
    have bYX := bt n.h BY
    have P0 := boxed_upto PX bYX PX.lt
    have R0 := boxed_upto (boxed_upto R1 BX R1.lt) bYX (by omega)
    have S0 := (S1.kept BX).kept bYX
    have HB0 := bt hY BY
    clear g0 g1 g2 g3 c0 d0 d1 d2 d3
    gi_wp2_with fail
    obtain ⟨W0, hW0⟩ : ∃ W0, n.w.alloc (.cells #[.int .i64 u, .int .i64 v, .int .i64 k, .int .i64 k] 67) = W0 := ⟨_, rfl⟩
    rw [hW0] at F0 BY hsz bYX P0 R0 S0 HB0 ⊢
    obtain ⟨C, hC⟩ : ∃ C, n.w.heap.size = C := ⟨_, rfl⟩
    rw [hC] at F0 hsz gz zY ⊢
    clear hW0
    have hi := HI.out
    have hpl := hw
    refine wpIn_rangeFunc_ownH rfl (by omega) (gf := 84) (lb := #[ptr C]) rfl trivial (enters_of Tryd.func84 (by kernel_rfl) rfl)
      (cells_stops (10 - 1) C (k.toNat * k.toNat + 1) u v k k W0 F0 (fun _ => by omega)) kB_t (kB_b (by omega)) (Below.refl _ _) (fun _ => rfl)
      (fun pre W' => (∀ q ∈ pre, carB W H tl f c q.1.1 q.1.2 = true) ∧ Below (C + 1) W0 W')
      (fun e pre W' => ((e = .ret ∧ ∃ q ∈ pre, carB W H tl f c q.1.1 q.1.2 = false) ∧ Boxed W' (w.heap.size + 1 + 1 + 1) 4 (.bool false)) ∧ Below w.heap.size w W')
      (OwnFrom.and (ownFrom_pure _ _) (ownFrom_below (by omega) (by omega)))
      (fun e => OwnFrom.and (OwnFrom.and (ownFrom_pure _ _) (Own.from (boxed_own _ _ _) _)) (ownFrom_below (Nat.le_refl _) (by omega)))
      ⟨fun q h => by simp at h, Below.refl _ _⟩
      (fun q a' W' => ∃ Bx, C + 1 ≤ Bx ∧ Two W' Bx q.1.1 q.1.2 ∧ a' = { tmps := #[ptr p, shv c s, cel x y, ptr w.heap.size, ptr (w.heap.size + 1), ptr (w.heap.size + 1 + 1), ptr (w.heap.size + 1 + 1 + 1), ptr w1.heap.size, ptr Bx, shv c s, cel x y, rct u v k k, rct u v k k, ptr p, rct 0 0 W H, .bool true, .bool false, rct u v k k, .func (.func 84) #[] #[ptr C], cel q.1.1 q.1.2, undef, undef, undef, undef, undef, undef], defers := [] })
      (fun q a' _ X Y row hs hg hr => by obtain ⟨Bx, e1, e2, e3⟩ := hs; exact ⟨Bx, e1, e2.own hg (fun r e => (hr r e).2), e3⟩)
      ?assign ?body ?done ?stop
    case assign =>
      rintro l pre q W' K ⟨hp, hB⟩ hK
      have hsB := hB.size
      gi_wp2
      exact hK _ _ ((KeepsOthers.alloc _ _).from _) (Below.heap_alloc _ _ _ (by omega)) ⟨hp, hB.alloc (by omega) _⟩ ⟨W'.heap.size, by omega, Two.newAt rfl, rfl⟩
    case body =>
      rintro l pre q a' W' hl ⟨r, hr⟩ ⟨hp, hB⟩ ⟨Bx, hBx, bX, rfl⟩ hlt
      have hsB := hB.size
      have bP := boxed_upto P0 hB (by omega)
      have bS := S0.upto hB (by omega)
      have bR := boxed_upto R0 hB (by omega)
      have HBW : Below w.heap.size w W' := HB0.trans (hB.mono (by omega))
      have cP := bP.cell
      obtain ⟨⟨s0, s1⟩, -, -⟩ := bS
      obtain ⟨⟨x0, x1⟩, -, -⟩ := bX
      cases hs : carB W H tl f c q.1.1 q.1.2
      · have Hs := hide hs
        clear hs hp
        gi_wp2_with fail
        refine ⟨trivial, ?_⟩
        refine (CallsIn.inRound l (callsIn_wide.2 (carries_is q.2.1 q.2.2 (hw.kept HBW) (hg.kept HBW) Hs.out))).mono ?_
        rintro e v1 ⟨rfl, hb⟩
        have bR1 := boxed_upto bR hb bR.lt
        have cR := bR1.cell
        have fR := bR1.frozen
        gi_wp2_with fail
        exact ⟨((keeps_below hb).trans (KeepsOthers.setCell _ _ _)).from _, ⟨⟨rfl, q, by simp, Hs.out⟩, bR1.set _⟩, (bt HBW hb).setCell (p := ⟨w.heap.size + 1 + 1 + 1, 0, none⟩) (by simp; omega) _⟩
      · have Hs := hide hs
        have Hp := hide hp
        clear hs hp
        gi_wp2_with fail
        refine ⟨trivial, ?_⟩
        refine (CallsIn.inRound l (callsIn_wide.2 (carries_is q.2.1 q.2.2 (hw.kept HBW) (hg.kept HBW) Hs.out))).mono ?_
        rintro e v1 ⟨rfl, hb⟩
        gi_wp2_with fail
        refine ⟨(keeps_below hb).from _, kB_below hb (by omega), ⟨fun q' hq' => ?_, hB.trans (hb.mono (by omega))⟩⟩
        rcases List.mem_append.1 hq' with h | h
        · exact Hp.out q' h
        · simp at h; subst h; exact Hs.out
    case done =>
      rintro D xs W' hD rfl ⟨hp, hB⟩ hK
      have hsW := hB.size
      have HBW : Below w.heap.size w W' := HB0.trans (hB.mono (by omega))
      have bR := boxed_upto R0 hB (by omega)
      have cR := bR.cell
      have fR := bR.frozen
      have ht : stU W H tl f c u v k = true := by
        rw [stU, HI.out, Bool.true_and, List.all_eq_true]
        exact hp
      have Ht := hide ht
      clear ht hp
      gi_wp2_with fail
      have hK3 := (KeepsOthers.setCell _ ⟨w.heap.size + 1 + 1 + 1, 0, none⟩ (.bool true)).same D _ hK rfl
      refine ⟨by simp, .inl ⟨_, _, rfl, run_takeDeferred hK3, ?_⟩⟩
      have hc5 := cell_kept (bR.set (.bool true)).cell (grownBy_putObj' _ D (.deferred none)) (fun r e => by cases e; exact ⟨_, hK3, rfl⟩)
      refine ⟨.bool true, ?_, by rw [Ht.out], (HBW.setCell (p := ⟨w.heap.size + 1 + 1 + 1, 0, none⟩) (by simp; omega) _).trans (belowK_b (w := w) (Nat.le_refl _) _ D _ _ (by omega) hK3 rfl rfl)⟩
      simp [results, Tryd.f47, go_sem, hc5]
    case stop =>
      rintro D e pre W' hD hpre ⟨⟨⟨rfl, q, hq, hs⟩, bR⟩, hB⟩ hK
      have cR := bR.cell
      have ht : stU W H tl f c u v k = false := by
        rw [stU, HI.out, Bool.true_and, Bool.eq_false_iff]
        intro h
        rw [List.all_eq_true] at h
        rw [h q (hpre.subset hq)] at hs
        cases hs
      have Ht := hide ht
      clear hs ht
      gi_wp2
      refine ⟨by simp, .inl ⟨_, _, rfl, run_takeDeferred hK, ?_⟩⟩
      have hc5 := cell_kept bR.cell (grownBy_putObj' _ D (.deferred none)) (fun r e => by cases e; exact ⟨_, hK, rfl⟩)
      refine ⟨.bool false, ?_, by rw [Ht.out], hB.trans (belowK_b (w := w) (Nat.le_refl _) W' D _ _ (by omega) hK rfl rfl)⟩
      simp [results, Tryd.f47, go_sem, hc5]
end Go.Proofs.YtekpamilcpeanaaDoor
