/-
  phalanxlaw06.ClassStands, walked.
-/
import Derived.Test.YthacppifndakjaaDoorBoth
namespace Go.Proofs.YthacppifndakjaaDoor
open Go.RowKit
set_option linter.unusedVariables false
theorem refstands_is {w : World} {r : Nat} {W H : Int} {tl : List Nat} {L : List Bd} {c s x y : Int} {b : Bool} (hw : Rl w r W H tl L) (h : stB W H tl (whoF L) c s x y = b) :
    Calls Tryd.prog 17 #[ptr r, shv c s, cel x y] w fun e w' => e = .returned (.bool b) ∧ Below w.heap.size w w' := by subst h; exact refstands_any r W H tl L c s x y w hw
abbrev WM (w : World) (W H : Int) (tv bv : Value) (c s x y : Int) : World := ((w.alloc (.cells #[.int .i64 W, .int .i64 H, tv, bv] 36)).alloc (.cells #[.int .i64 c, .int .i64 s] 23)).alloc (.cells #[.int .i64 x, .int .i64 y] 25)
theorem wm_below (w : World) (W H : Int) (tv bv : Value) (c s x y : Int) : Below w.heap.size w (WM w W H tv bv c s x y) := bt (box2 _ _ _) (box1 _ _)
theorem wm_map (w : World) (W H : Int) (tv bv : Value) (c s x y : Int) : MB (WM w W H tv bv c s x y) w.heap.size W H tv bv := (MB.new w W H tv bv).kept (box2 _ _ _)
theorem wm_shape (w : World) (W H : Int) (tv bv : Value) (c s x y : Int) : Two (WM w W H tv bv c s x y) (w.heap.size + 1) c s := (Two.newAt (by simp)).alloc
theorem wm_cell (w : World) (W H : Int) (tv bv : Value) (c s x y : Int) : Two (WM w W H tv bv c s x y) (w.heap.size + 1 + 1) x y := Two.newAt (by simp)
set_option maxRecDepth 100000 in
set_option maxHeartbeats 4000000 in
theorem stands_walk (W H : Int) (tv bv : Value) (tl : List Nat) (L : List Bd) (c s x y : Int) (w : World) (hv : TlR w tv tl) (hb : ∀ n ∈ tl, n < 256) (hl : BdR w bv L) (hg : Grnd w) (ho : Offs w) :
    Calls Tryd.prog 4 #[mp W H tv bv, shv c s, .agg #[.int .i64 x, .int .i64 y]] w fun e w' => e = .returned (.bool true) ∧ Below w.heap.size w w' := by
  have B0 := wm_below w W H tv bv c s x y
  have MX := wm_map w W H tv bv c s x y
  have SX := wm_shape w W H tv bv c s x y
  have CX := wm_cell w W H tv bv c s x y
  unfold WM at B0 MX SX CX
  obtain ⟨X, hX⟩ : ∃ X, ((w.alloc (.cells #[.int .i64 W, .int .i64 H, tv, bv] 36)).alloc (.cells #[.int .i64 c, .int .i64 s] 23)).alloc (.cells #[.int .i64 x, .int .i64 y] 25) = X := ⟨_, rfl⟩
  rw [hX] at B0 MX SX CX
  have HGO : Hid (∀ wx, Below w.heap.size w wx → Grnd wx ∧ Offs wx) := hide fun wx hx => ⟨hg.kept hx, ho.kept hx⟩
  obtain ⟨m0, m1, m2, m3⟩ := MX.c
  rcases chkC_two W H tl L with hc | hc
  · have HB := hide (both_ok W H tv bv tl L X (hv.kept B0) hb (hl.kept B0) hc)
    obtain ⟨a1, cap1, rfl, -⟩ := hv
    obtain ⟨a2, cap2, rfl, -⟩ := hl
    clear hg ho hc hb MX
    go_enter Tryd.func4, Tryd.ntmps4
    go_wp2_with fail
    refine HB.out.mono ?_
    rintro e w1 ⟨p, r, rfl, hW, hR, hb1⟩
    clear hX m0 m1 m2 m3 HB
    have S1 := SX.kept hb1
    have C1 := CX.kept hb1
    have HB1 := hide (bt B0 hb1)
    have HW : Hid (∀ n : Lat w1, Wl n.w p W H tl (whoF L) ∧ Rl n.w r W H tl L) := hide fun n => ⟨hW.kept n.h, hR.kept n.h⟩
    have HG : Hid (∀ n : Lat w1, Grnd n.w ∧ Offs n.w) := hide fun n => HGO.out _ (bt HB1.out n.h)
    obtain ⟨s0, s1⟩ := S1.lat
    obtain ⟨c0, c1⟩ := C1.lat
    have hne := lat_some w1
    obtain ⟨b, hbb⟩ : ∃ b, stB W H tl (whoF L) c s x y = b := ⟨_, rfl⟩
    have Hb := hide hbb
    clear hW hR hb1 SX CX S1 C1 hbb HGO B0
    go_wp2_with fail
    cases b
    all_goals
      refine wp_region_lat (by kernel_rfl) (by kernel_rfl) ?_
      repeat (go_big_quiet_step (first | (go_at_call 16; exact calls_lat (stands_is (HW.out _).1 (HG.out _).1 Hb.out)) | (go_at_call 17; exact calls_lat (refstands_is (HW.out _).2 Hb.out)) | (go_at_call 14; exact calls_lat (awake_any _ (HG.out _).1 (HG.out _).2))))
      refine wpQuiet_nil ?_
      rintro _ ⟨n, rfl⟩
      go_wp2_with fail
      go_ret
      exact ⟨rfl, bt HB1.out n.h⟩
  · have HB := hide (both_no W H tv bv tl L X (hv.kept B0) hb (hl.kept B0) hc)
    obtain ⟨a1, cap1, rfl, -⟩ := hv
    obtain ⟨a2, cap2, rfl, -⟩ := hl
    clear hg ho hc hb MX
    go_enter Tryd.func4, Tryd.ntmps4
    go_wp2_with fail
    refine HB.out.mono ?_
    rintro e w1 ⟨rfl, hb1⟩
    clear hX m0 m1 m2 m3 HB
    have S1 := SX.kept hb1
    have C1 := CX.kept hb1
    have HB1 := hide (bt B0 hb1)
    obtain ⟨⟨s0, s1⟩, -, -⟩ := S1
    obtain ⟨⟨c0, c1⟩, -, -⟩ := C1
    clear SX CX hb1 B0
    go_wp2_with fail
    refine (stands_nil c s x y _).mono ?_
    rintro e w2 ⟨rfl, hb2⟩
    have HB2 := hide hb2
    clear s0 s1 c0 c1 hb2
    go_wp2_with (go_at_call 14; refine (awake_any _ (HGO.out _ (bt HB1.out HB2.out)).1 (HGO.out _ (bt HB1.out HB2.out)).2).mono ?_; rintro e w3 ⟨rfl, hb3⟩)
    go_ret
    exact ⟨rfl, bt (bt HB1.out HB2.out) hb3⟩
end Go.Proofs.YthacppifndakjaaDoor
