/-
  What New gives; a map of three columns and rows.
-/
import Derived.Test.YtekpamilcpeanaaDoorStands
import Derived.Test.YtekpamilcpeanaaDoorNew
namespace Go.Proofs.YtekpamilcpeanaaDoor
open Go.RowKit
set_option linter.unusedVariables false
/-- What New gives is a World as this layer asks it. -/
theorem Made.wl {w w' : World} {W H : Int} {tl : List Nat} {L : List Bd} {p : Nat} (h : Made w W H tl L p w') (hm : mt W H tl = true) (hb : ∀ x ∈ tl, x < 256) : Wl w' p W H tl (whoL L) ∧ Below w.heap.size w w' := by
  obtain ⟨bm, tv, bv, d1, d2, d3, d4, d5, -⟩ := h
  exact ⟨⟨⟨hm, hb⟩, bm, _, tv, bv, _, d1, d2, d4⟩, d5⟩
/-- So many edits have been made of the World in block p. -/
def Ep (w : World) (p n : Nat) : Prop := ∃ W H tv bv bm a cap, Wd w p W H tv bv bm (.slice a n cap)
theorem Ep.kept {w w' : World} {p n : Nat} (h : Ep w p n) (hb : Below w.heap.size w w') : Ep w' p n := by
  obtain ⟨W, H, tv, bv, bm, a, cap, h⟩ := h
  exact ⟨W, H, tv, bv, bm, a, cap, h.kept (Turns.of_below (S := NoB) hb) id⟩
/-- A World as New gives it. -/
def Wn (w : World) (p : Nat) (W H : Int) (tl : List Nat) (f : Int → Int → Option Int) : Prop := Wl w p W H tl f ∧ Ep w p 0
theorem Wn.kept {w w' : World} {p : Nat} {W H : Int} {tl : List Nat} {f : Int → Int → Option Int} (h : Wn w p W H tl f) (hb : Below w.heap.size w w') : Wn w' p W H tl f := ⟨h.1.kept hb, h.2.kept hb⟩
theorem Made.wn {w w' : World} {W H : Int} {tl : List Nat} {L : List Bd} {p : Nat} (h : Made w W H tl L p w') (hm : mt W H tl = true) (hb : ∀ x ∈ tl, x < 256) : Wn w' p W H tl (whoL L) ∧ Below w.heap.size w w' := by
  have h1 := h.wl hm hb
  obtain ⟨bm, tv, bv, d1, -⟩ := h
  exact ⟨⟨h1.1, W, H, tv, bv, bm, none, 0, d1⟩, h1.2⟩
def tl9 : List Nat := List.replicate 9 0
theorem make9 (w : World) : (Instr.makeSlice 32 (.int .i64 9) (.int .i64 9)).run Tryd.prog w = .ok (.slice (some ⟨w.heap.size, 0, none⟩) 9 9) (w.alloc (.cells (tl9.map (fun n => Value.int .u8 (n : Nat))).toArray 5)) := by kernel_rfl
theorem made9 (w : World) : Tls (w.alloc (.cells (tl9.map (fun n => Value.int .u8 (n : Nat))).toArray 5)) (.slice (some ⟨w.heap.size, 0, none⟩) 9 9) tl9 :=
  ⟨rfl, .inr ⟨w.heap.size, 9, _, rfl, Nat.zero_le _, heap_alloc_new w _, Nat.le_refl _, by decide, rfl, rfl⟩⟩
theorem mt9 : mt 3 3 tl9 = true := by decide
theorem lt9 : ∀ x ∈ tl9, x < 256 := by decide
theorem new9 (w : World) : Calls Tryd.prog 23 #[mp 3 3 (.slice (some ⟨w.heap.size, 0, none⟩) 9 9) (.slice none 0 0)] (w.alloc (.cells (tl9.map (fun n => Value.int .u8 (n : Nat))).toArray 5))
    fun e w' => ∃ p, e = .returned (.tuple #[ptr p, .int .i64 0]) ∧ Wl w' p 3 3 tl9 (whoL []) ∧ Below w.heap.size w w' := by
  refine (new_good 3 3 _ (.slice none 0 0) tl9 [] _ (made9 w).r lt9 (BdR.nil _) mt9).mono ?_
  rintro e w' (⟨-, p, he, hm⟩ | ⟨h, -⟩)
  · have := hm.wl mt9 lt9
    exact ⟨p, he, this.1, bt (box1 _ _) this.2⟩
  · cases h
end Go.Proofs.YtekpamilcpeanaaDoor
