/-
  What phalanxlaw06.awake tells.
-/
import Derived.Test.YthacppifndakjaaDoorSteps
namespace Go.Proofs.YthacppifndakjaaDoor
open Go.RowKit
set_option linter.unusedVariables false
theorem stands_of {w : World} {p : Nat} {W H : Int} {tl : List Nat} {f : Int → Int → Option Int} (c s : Int) (hw : Wl w p W H tl f) (hg : Grnd w) :
    ∀ wx, Below w.heap.size w wx → ∀ x y, Calls Tryd.prog 16 #[ptr p, shv c s, cel x y] wx fun e w' => e = .returned (.bool (stB W H tl f c s x y)) ∧ Below wx.heap.size wx w' :=
  fun wx hb x y => stands_any p W H tl f c s x y wx (hw.kept hb) (hg.kept hb)
theorem stands_is {w : World} {p : Nat} {W H : Int} {tl : List Nat} {f : Int → Int → Option Int} {c s x y : Int} {b : Bool} (hw : Wl w p W H tl f) (hg : Grnd w) (h : stB W H tl f c s x y = b) :
    Calls Tryd.prog 16 #[ptr p, shv c s, cel x y] w fun e w' => e = .returned (.bool b) ∧ Below w.heap.size w w' := by subst h; exact stands_any p W H tl f c s x y w hw hg
theorem steps_any (p : Nat) (W H : Int) (tl : List Nat) (f : Int → Int → Option Int) (c s x y d : Int) (w : World) (hw : Wl w p W H tl f) (hg : Grnd w) (ho : Offs w) :
    Calls Tryd.prog 21 #[ptr p, shv c s, cel x y, .int .i64 d] w fun e w' => e = .returned (.bool (lg (stB W H tl f c s) x y d)) ∧ Below w.heap.size w w' :=
  steps_of p _ c s x y d w (fun wx hb => step_any x y d wx (ho.kept hb)) (fun wx hb => sides_any x y d wx (ho.kept hb)) (stands_of c s hw hg)
theorem steps_is {w : World} {p : Nat} {W H : Int} {tl : List Nat} {f : Int → Int → Option Int} {c s x y d : Int} {b : Bool} (hw : Wl w p W H tl f) (hg : Grnd w) (ho : Offs w) (h : lg (stB W H tl f c s) x y d = b) :
    Calls Tryd.prog 21 #[ptr p, shv c s, cel x y, .int .i64 d] w fun e w' => e = .returned (.bool b) ∧ Below w.heap.size w w' := by subst h; exact steps_any p W H tl f c s x y d w hw hg ho
/-- What New gives is a World as this layer asks it. -/
theorem Made.wl {w w' : World} {W H : Int} {tl : List Nat} {L : List Bd} {p : Nat} (h : Made w W H tl L p w') (hm : mt W H tl = true) (hb : ∀ x ∈ tl, x < 256) : Wl w' p W H tl (whoL L) ∧ Below w.heap.size w w' := by
  obtain ⟨bm, tv, bv, d1, d2, d3, d4, d5, -⟩ := h
  exact ⟨⟨⟨hm, hb⟩, bm, _, tv, bv, _, d1, d2, d4⟩, d5⟩
def tl9 : List Nat := List.replicate 9 0
theorem make9 (w : World) : (Instr.makeSlice 33 (.int .i64 9) (.int .i64 9)).run Tryd.prog w = .ok (.slice (some ⟨w.heap.size, 0, none⟩) 9 9) (w.alloc (.cells (tl9.map (fun n => Value.int .u8 (n : Nat))).toArray 5)) := by kernel_rfl
theorem made9 (w : World) : Tls (w.alloc (.cells (tl9.map (fun n => Value.int .u8 (n : Nat))).toArray 5)) (.slice (some ⟨w.heap.size, 0, none⟩) 9 9) tl9 :=
  ⟨rfl, .inr ⟨w.heap.size, 9, _, rfl, Nat.zero_le _, heap_alloc_new w _, Nat.le_refl _, by decide, rfl, rfl⟩⟩
theorem mt9 : mt 3 3 tl9 = true := by decide
theorem lt9 : ∀ x ∈ tl9, x < 256 := by decide
theorem lg9 : lg (stB 3 3 tl9 (whoL []) 0 2) 0 0 4 = true := by decide
theorem st9 : stB 3 3 tl9 (whoL []) 0 2 2 0 = false := by decide
theorem on9 : onB 2 0 = false := by decide
theorem new9 (w : World) : Calls Tryd.prog 30 #[mp 3 3 (.slice (some ⟨w.heap.size, 0, none⟩) 9 9) (.slice none 0 0)] (w.alloc (.cells (tl9.map (fun n => Value.int .u8 (n : Nat))).toArray 5))
    fun e w' => ∃ p, e = .returned (.tuple #[ptr p, .int .i64 0]) ∧ Wl w' p 3 3 tl9 (whoL []) ∧ Below w.heap.size w w' := by
  refine (new_good 3 3 _ (.slice none 0 0) tl9 [] _ (made9 w).r lt9 (BdR.nil _) mt9).mono ?_
  rintro e w' (⟨-, p, he, hm⟩ | ⟨h, -⟩)
  · have := hm.wl mt9 lt9
    exact ⟨p, he, this.1, bt (box1 _ _) this.2⟩
  · cases h
set_option maxRecDepth 100000 in
set_option maxHeartbeats 1000000 in
theorem awake_any (w : World) (hg : Grnd w) (ho : Offs w) : Calls Tryd.prog 14 #[] w fun e w' => e = .returned (.bool true) ∧ Below w.heap.size w w' := by
  have HN := hide (new9 w)
  obtain ⟨X, hX⟩ : ∃ X, w.alloc (.cells (tl9.map (fun n => Value.int .u8 (n : Nat))).toArray 5) = X := ⟨_, rfl⟩
  have hmk : (Instr.makeSlice 33 (.int .i64 9) (.int .i64 9)).run Tryd.prog w = .ok (.slice (some ⟨w.heap.size, 0, none⟩) 9 9) X := by rw [make9 w, hX]
  rw [hX] at HN
  clear hX
  go_enter Tryd.func14, Tryd.ntmps14
  go_wp2_with (first | (go_at_call 30; refine HN.out.mono ?_; clear HN; rintro e w1 ⟨p, rfl, hM, hb1⟩; have HW := hide hM; have HB := hide hb1; clear hM hb1)  | (go_at_call 21; refine (steps_is HW.out (hg.kept HB.out) (ho.kept HB.out) lg9).mono ?_; rintro e w2 ⟨rfl, hb2⟩; have HB2 := hide hb2; clear hb2)  | (go_at_call 16; refine (stands_is (HW.out.kept HB2.out) (hg.kept (bt HB.out HB2.out)) st9).mono ?_; rintro e w3 ⟨rfl, hb3⟩; have HB3 := hide hb3; clear hb3)  | (go_at_call 10; refine (on_is _ (hg.kept (bt (bt HB.out HB2.out) HB3.out)) on9).mono ?_; rintro e w4 ⟨rfl, rfl⟩))
  go_ret
  exact ⟨rfl, bt (bt HB.out HB2.out) HB3.out⟩
end Go.Proofs.YthacppifndakjaaDoor
