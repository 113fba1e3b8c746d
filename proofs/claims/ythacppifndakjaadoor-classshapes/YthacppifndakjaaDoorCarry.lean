/-
  A World as the layer asks it, and what a tile carries.
-/
import Derived.Test.YthacppifndakjaaDoorTerr
import Derived.Test.YthacppifndakjaaDoorShape
namespace Go.Proofs.YthacppifndakjaaDoor
open Go.RowKit
set_option linter.unusedVariables false
/-- In block p lies a World of so many tiles; f says which building has which cell. -/
def Wl (w : World) (p : Nat) (W H : Int) (tl : List Nat) (f : Int → Int → Option Int) : Prop :=
  (mt W H tl = true ∧ ∀ n ∈ tl, n < 256) ∧ ∃ (bm n : Nat) (tv bv ev : Value), Wd w p W H tv bv bm ev ∧ Tls w tv tl ∧ Who w bm n f
theorem Wl.kept {w w' : World} {p : Nat} {W H : Int} {tl : List Nat} {f : Int → Int → Option Int} (h : Wl w p W H tl f) (hb : Below w.heap.size w w') : Wl w' p W H tl f := by
  obtain ⟨h0, bm, n, tv, bv, ev, h1, h2, h3⟩ := h
  have T : Turns NoB w w' := Turns.of_below hb
  exact ⟨h0, bm, n, tv, bv, ev, h1.kept T id, h2.kept T (fun _ _ => id), h3.kept T id⟩
def carB (W H : Int) (tl : List Nat) (f : Int → Int → Option Int) (c x y : Int) : Bool := has 0 0 W H x y && (!(f x y).isSome && onB c (terN W H tl x y))
theorem terr_is {w : World} {p : Nat} {W H : Int} {tl : List Nat} {f : Int → Int → Option Int} (x y : Int) {b : Bool} {t : Int} (h : Wl w p W H tl f) (hb : has 0 0 W H x y = b) (ht : terN W H tl x y = t) :
    Calls Tryd.prog 63 #[ptr p, cel x y] w fun e w' => e = .returned (.tuple #[.int .i64 t, .bool b]) ∧ Below w.heap.size w w' := by
  obtain ⟨⟨h0, h00⟩, bm, n, tv, bv, ev, h1, h2, h3⟩ := h
  subst hb; subst ht
  exact terrain_world p bm W H tv bv ev tl x y w h1 h2 h0 h00
theorem at_is {w : World} {p : Nat} {W H : Int} {tl : List Nat} {f : Int → Int → Option Int} (x y : Int) (hx : W64 x) (hy : W64 y) {b : Bool} {t : Int} (h : Wl w p W H tl f) (hb : (f x y).isSome = b) (ht : (f x y).getD 0 = t) :
    Calls Tryd.prog 64 #[ptr p, cel x y] w fun e w' => e = .returned (.tuple #[.int .i64 t, .bool b]) ∧ Below w.heap.size w w' := by
  obtain ⟨⟨h0, h00⟩, bm, n, tv, bv, ev, h1, h2, h3⟩ := h
  subst hb; subst ht
  exact at_world p bm n W H tv bv ev f x y hx hy w h1 h3
set_option maxHeartbeats 1000000 in
theorem carries_any (p : Nat) (W H : Int) (tl : List Nat) (f : Int → Int → Option Int) (c x y : Int) (hx : W64 x) (hy : W64 y) (w : World) (hw : Wl w p W H tl f) (hg : Grnd w) :
    Calls Tryd.prog 35 #[ptr p, .int .i64 c, cel x y] w fun e w' => e = .returned (.bool (carB W H tl f c x y)) ∧ Below w.heap.size w w' := by
  have B0 : Below w.heap.size w (w.alloc (.cells #[.int .i64 x, .int .i64 y] 25)) := box1 _ _
  have HW := hide (hw.kept B0)
  have HG := hide (hg.kept B0)
  obtain ⟨t, ht⟩ : ∃ t, terN W H tl x y = t := ⟨_, rfl⟩
  obtain ⟨i, hi⟩ : ∃ i, (f x y).getD 0 = i := ⟨_, rfl⟩
  cases hb : has 0 0 W H x y <;> cases hs : (f x y).isSome
  all_goals
    have Hb := hide hb
    have Hs := hide hs
    have Ht := hide ht
    have Hi := hide hi
    clear hw hg hb hs ht hi
    go_enter Tryd.func35, Tryd.ntmps35
    go_wp2_with fail
    refine (terr_is x y HW.out Hb.out Ht.out).mono ?_
    rintro e w1 ⟨rfl, hb1⟩
    obtain ⟨⟨c0, c1⟩, -, -⟩ := cells2 hb1
    have H1 := hide hb1
    clear hb1
    go_wp2_with fail
    refine (at_is x y hx hy (HW.out.kept H1.out) Hs.out Hi.out).mono ?_
    rintro e w2 ⟨rfl, hb2⟩
    have H2 := hide hb2
    clear hb2 c0 c1
    go_wp2_with (go_at_call 10; refine (on_any _ _ _ (HG.out.kept (bt H1.out H2.out))).mono ?_; rintro e w3 ⟨rfl, rfl⟩)
    go_ret
    exact ⟨ret_bool (by simp [carB, Hb.out, Hs.out, Ht.out]), bt B0 (bt H1.out H2.out)⟩
end Go.Proofs.YthacppifndakjaaDoor
