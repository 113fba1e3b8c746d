/-
  A World laid anew: its tiles copied, nobody on its cells.
-/
import Derived.Test.YthacppifndakjaaDoorMayT
namespace Go.Proofs.YthacppifndakjaaDoor
open Go.RowKit
set_option linter.unusedVariables false
/-- A World without buildings and edits, in memory of its own. -/
def Fresh (w1 : World) (W H : Int) (tl : List Nat) (p bm : Nat) (tv : Value) (w' : World) : Prop :=
  Wd w' p W H tv (.slice none 0 0) bm (.slice none 0 0) ∧ Tls w' tv tl ∧ Who w' bm 0 (fun _ _ => none) ∧ Below w1.heap.size w1 w' ∧ w1.heap.size ≤ p ∧ w1.heap.size ≤ bm ∧ ∀ b, tv.ownBlock = some b → w1.heap.size ≤ b
theorem fresh_a {w1 w2 : World} {W H : Int} {tl : List Nat} {tv : Value} (ho : Tls w2 tv tl) (hb : Below w1.heap.size w1 w2) (hf : ∀ b, tv.ownBlock = some b → w1.heap.size ≤ b) :
    Fresh w1 W H tl (w2.heap.size + 1) w2.heap.size tv ((w2.alloc (.map #[] 0)).alloc (.cells #[.int .i64 0, .int .i64 0, .int .i64 W, .int .i64 H, tv, .slice none 0 0, .map (some w2.heap.size), .slice none 0 0] 90)) := by
  have TB : Turns NoB (w2.alloc (.map #[] 0)) ((w2.alloc (.map #[] 0)).alloc (.cells #[.int .i64 0, .int .i64 0, .int .i64 W, .int .i64 H, tv, .slice none 0 0, .map (some w2.heap.size), .slice none 0 0] 90)) := Turns.of_below (box1 _ _)
  have TA : Turns NoB w2 (w2.alloc (.map #[] 0)) := Turns.of_below (box1 _ _)
  have hz := hb.size
  refine ⟨?_, (ho.kept TA (fun _ _ => id)).kept TB (fun _ _ => id), (Who.made w2).kept TB id, bt hb (box2 _ _ _), by omega, hz, hf⟩
  have := heap_alloc_new (w2.alloc (.map #[] 0)) (.cells #[.int .i64 0, .int .i64 0, .int .i64 W, .int .i64 H, tv, .slice none 0 0, .map (some w2.heap.size), .slice none 0 0] 90)
  simpa [Wd] using this
theorem fresh_b {w1 w2 : World} {W H : Int} {tl : List Nat} {tv : Value} (ho : Tls w2 tv tl) (hb : Below (w1.alloc (.map #[] 0)).heap.size (w1.alloc (.map #[] 0)) w2) (hf : ∀ b, tv.ownBlock = some b → w1.heap.size ≤ b) :
    Fresh w1 W H tl w2.heap.size w1.heap.size tv (w2.alloc (.cells #[.int .i64 0, .int .i64 0, .int .i64 W, .int .i64 H, tv, .slice none 0 0, .map (some w1.heap.size), .slice none 0 0] 90)) := by
  have TB : Turns NoB w2 (w2.alloc (.cells #[.int .i64 0, .int .i64 0, .int .i64 W, .int .i64 H, tv, .slice none 0 0, .map (some w1.heap.size), .slice none 0 0] 90)) := Turns.of_below (box1 _ _)
  have TA : Turns NoB (w1.alloc (.map #[] 0)) w2 := Turns.of_below hb
  have hz := hb.size
  simp at hz
  exact ⟨heap_alloc_new w2 _, ho.kept TB (fun _ _ => id), ((Who.made w1).kept TA id).kept TB id, bt (bt (box1 _ _) hb) (box1 _ _), by omega, Nat.le_refl _, hf⟩
end Go.Proofs.YthacppifndakjaaDoor
