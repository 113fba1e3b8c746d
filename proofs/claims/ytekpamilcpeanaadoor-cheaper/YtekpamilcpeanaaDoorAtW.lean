/-
  At and Epoch of a World.
-/
import Derived.Test.YtekpamilcpeanaaDoorPlace
namespace Go.Proofs.YtekpamilcpeanaaDoor
open Go.RowKit
set_option linter.unusedVariables false
theorem Rcs.form {w : World} {v : Value} {l : List Rc} (h : Rcs w v l) : ∃ a cap, v = .slice a l.length cap ∧ l.length ≤ cap ∧ cap ≤ maxLen := by
  rcases h.2 with ⟨e, h0⟩ | ⟨g, cap, cur, e, hb, hg, hn, hm, _⟩
  · exact ⟨none, 0, by rw [h0]; exact e, by omega, by decide⟩
  · exact ⟨_, cap, e, hn, hm⟩
set_option maxHeartbeats 1000000 in
theorem at_world (p bm n : Nat) (W H : Int) (tv bv ev : Value) (f : Int → Int → Option Int) (x y : Int) (hx : W64 x) (hy : W64 y) (w : World) (hd : Wd w p W H tv bv bm ev) (hw : Who w bm n f) :
    Calls Tryd.prog 91 #[ptr p, cel x y] w fun e w' => e = .returned (.tuple #[.int .i64 ((f x y).getD 0), .bool (f x y).isSome]) ∧ Below w.heap.size w w' := by
  have B0 : Below w.heap.size w (w.alloc (.cells #[.int .i64 x, .int .i64 y] 23)) := box1 _ _
  have T0 : Turns NoB w (w.alloc (.cells #[.int .i64 x, .int .i64 y] 23)) := Turns.of_below B0
  have hd0 := hd.kept T0 id
  have hw0 := hw.kept T0 id
  have HM := hide (made_is hd0)
  have bX : Two (w.alloc (.cells #[.int .i64 x, .int .i64 y] 23)) w.heap.size x y := Two.newAt rfl
  obtain ⟨X, hX⟩ : ∃ X, w.alloc (.cells #[.int .i64 x, .int .i64 y] 23) = X := ⟨_, rfl⟩
  rw [hX] at B0 hd0 hw0 HM bX
  obtain ⟨d0, d1⟩ := bX.lat
  have c6 : ∀ n : Lat X, n.w.cell? ⟨p, 6, none⟩ = some (.map (some bm)) := fun n => (hd0.kept (Turns.of_below (S := NoB) n.h) id).c 6
  have hlook : ∀ m : Lat X, (Instr.lookup 73 (.map (some bm)) (cel x y) true).run Tryd.prog m.w = .ok (.tuple #[.int .i64 ((f x y).getD 0), .bool (f x y).isSome]) m.w := fun m => (hw0.kept (Turns.of_below (S := NoB) m.h) id).look hx hy
  obtain ⟨z, hz⟩ : ∃ z, (f x y).getD 0 = z := ⟨_, rfl⟩
  obtain ⟨b, hb⟩ : ∃ b, (f x y).isSome = b := ⟨_, rfl⟩
  rw [hz, hb] at hlook ⊢
  have hne := lat_some X
  clear hz hb hd0 hw0 hd hw bX
  go_enter Tryd.func91, Tryd.ntmps91
  go_wp2_with (go_at_call 60; refine HM.out.mono ?_; rintro e w1 ⟨rfl, rfl⟩)
  clear hX
  refine wp_region_lat (by kernel_rfl) (by kernel_rfl) ?_
  repeat (go_big_quiet_step (fail))
  refine wpQuiet_nil ?_
  rintro _ ⟨n, rfl⟩
  go_wp2_with fail
  go_ret2
  exact ⟨rfl, B0.trans (n.h.mono B0.size)⟩
end Go.Proofs.YtekpamilcpeanaaDoor
