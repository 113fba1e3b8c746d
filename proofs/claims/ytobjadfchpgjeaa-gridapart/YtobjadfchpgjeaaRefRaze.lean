/-
  The document's Raze.
-/
import Derived.Test.YtobjadfchpgjeaaAsks
import Derived.Test.YtobjadfchpgjeaaClones
namespace Go.Proofs.Ytobjadfchpgjeaa
open Go.RowKit
set_option linter.unusedVariables false
set_option maxHeartbeats 1000000 in
theorem refraze_no (r : Nat) (W H : Int) (tv bv ev : Value) (l : List Bd) (i : Int) (w : World) (hd : Rd w r W H tv bv ev) (hl : Bds w bv l) (hs : Sorted l) (hlen : l.length ≤ 256) (hf : found l i = false) :
    Calls Try.prog 48 #[ptr r, .int .i64 i] w fun e w' => e = .returned (.tuple #[rct 0 0 0 0, .int .i64 4]) ∧ Below w.heap.size w w' := by
  have B0 : Below w.heap.size w (Z4 w) := box1 _ _
  have hd0 : Rd (Z4 w) r W H tv bv ev := hd.kept (Turns.of_below (S := NoB) B0) id
  have hl0 : Bds (Z4 w) bv l := hl.kept (Turns.of_below (S := NoB) B0) (fun _ _ => id)
  have HI := hide (refplace_is hd0 hl0 hs hlen hf)
  obtain ⟨⟨c0, c1, c2, c3⟩, ⟨g0, g1, g2, g3⟩, zz⟩ : Four (Z4 w) w.heap.size 0 0 0 0 := cells4 (Below.refl _ _)
  clear hd0 hd hl hl0 hs
  go_enter Try.func48, Try.ntmps48
  go_wp2_with (go_at_call 40; refine HI.out.mono ?_; rintro e w1 ⟨rfl, rfl⟩)
  refine bodyPost_ret (v := .tuple #[rct 0 0 0 0, .int .i64 4]) (by simp [results, Try.results48, go_sem, c0, c1, c2, c3]) rfl ⟨rfl, ?_⟩
  exact box1 _ _
theorem row_any {w : World} {e : TypeId} {k n : Nat} {v : Value} {xs : List Value} (h : w.ownsRow 0 e k v n xs) : ∃ a cap, v = .slice a n cap := by
  rcases h.2 with ⟨rfl, rfl⟩ | ⟨g, cap, cur, rfl, r⟩
  · exact ⟨none, 0, rfl⟩
  · exact ⟨_, _, rfl⟩
theorem new2 {v2 : Value} {b n m : Nat} (h : v2.ownBlock = (Value.slice none 0 0).ownBlock ∨ v2.ownBlock = some n) (hn : m ≤ n) (hb : v2.ownBlock = some b) : m ≤ b := by
  rcases h with h | h
  · rw [h] at hb; cases hb
  · rw [h] at hb; cases hb; exact hn
/-- What the document's Raze leaves. -/
def RefRazed (w : World) (r : Nat) (W H : Int) (tv ev : Value) (l : List Bd) (es : List Rc) (k : Nat) (t : Bd) (w' : World) : Prop :=
  ∃ bv' ev', Rd w' r W H tv bv' ev' ∧ Bds w' bv' (del l k) ∧ Rcs w' ev' (es ++ [t.foot]) ∧ Turns (fun j => j = r ∨ ev.ownBlock = some j) w w' ∧ (∀ b, bv'.ownBlock = some b → w.heap.size ≤ b) ∧ (∀ b, ev'.ownBlock = some b → ev.ownBlock = some b ∨ w.heap.size ≤ b)
end Go.Proofs.Ytobjadfchpgjeaa
