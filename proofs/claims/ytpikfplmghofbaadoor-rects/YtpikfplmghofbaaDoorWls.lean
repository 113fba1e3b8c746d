/-
  The package's World, as these statements ask it: what lies in its block.
-/
import Derived.Test.YtpikfplmghofbaaDoorAsks
set_option linter.unusedSimpArgs false
namespace Go.Proofs.YtpikfplmghofbaaDoor
open Go.RowKit
set_option linter.unusedVariables false
/-- In block p lies a World of so many tiles; f says which building has which cell. -/
def Wl (w : World) (p : Nat) (W H : Int) (tl : List Nat) (f : Int → Int → Option Int) : Prop :=
  (mt W H tl = true ∧ ∀ n ∈ tl, n < 256) ∧ ∃ (bm n : Nat) (tv bv ev : Value), Wd w p W H tv bv bm ev ∧ Tls w tv tl ∧ Who w bm n f
theorem Wl.kept {w w' : World} {p : Nat} {W H : Int} {tl : List Nat} {f : Int → Int → Option Int} (h : Wl w p W H tl f) (hb : Below w.heap.size w w') : Wl w' p W H tl f := by
  obtain ⟨h0, bm, n, tv, bv, ev, h1, h2, h3⟩ := h
  have T : Turns NoB w w' := Turns.of_below hb
  exact ⟨h0, bm, n, tv, bv, ev, h1.kept T id, h2.kept T (fun _ _ => id), h3.kept T id⟩
theorem all_is {w : World} {p : Nat} {W H : Int} {tl : List Nat} {f : Int → Int → Option Int} (h : Wl w p W H tl f) :
    Calls Tryd.prog 18 #[ptr p] w fun e w' => e = .returned (rct 0 0 W H) ∧ Below w.heap.size w w' := by
  obtain ⟨-, bm, n, tv, bv, ev, h1, -, -⟩ := h
  exact all_world p bm W H tv bv ev w h1
theorem Two.upto {n₀ : Nat} {W W' : World} {k : Nat} {u v : Int} (h : Two W k u v) (hB : Below n₀ W W') (hk : k < n₀) : Two W' k u v :=
  ⟨⟨(hB.cell (p := ⟨k, 0, none⟩) hk).trans h.1.1, (hB.cell (p := ⟨k, 1, none⟩) hk).trans h.1.2⟩, ⟨(hB.frozen (p := ⟨k, 0, none⟩) hk).trans h.2.1.1, (hB.frozen (p := ⟨k, 1, none⟩) hk).trans h.2.1.2⟩, Nat.lt_of_lt_of_le h.2.2 hB.size⟩
end Go.Proofs.YtpikfplmghofbaaDoor
