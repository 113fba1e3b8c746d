/-
  The order of the law (by keys, divided by 4); the memory that a call may turn, as a set of blocks.
-/
import Derived.Test.YtdhiomahcilffaaRows
import Derived.WalkKit
import Derived.ProofKit
import Derived.WalkSmall
import Derived.WalkLawsBesides
namespace Go.Proofs.Ytdhiomahcilffaa
open Go.RowKit
set_option linter.unusedVariables false
set_option linter.unusedSimpArgs false
theorem ret_bool {a b : Bool} (h : a = b) : Ending.returned (.bool a) = .returned (.bool b) := by rw [h]
theorem ret_int {k : IntKind} {a b : Int} (h : a = b) : Ending.returned (.int k a) = .returned (.int k b) := by rw [h]
theorem hide {p : Prop} (h : p) : Hid p := h
theorem bt {a b c : World} (h1 : Below a.heap.size a b) (h2 : Below b.heap.size b c) : Below a.heap.size a c := h1.trans (h2.mono h1.size)
theorem box1 (w : World) (o : Obj) : Below w.heap.size w (w.alloc o) := (Below.refl _ _).alloc (Nat.le_refl _) o
theorem box2 (w : World) (o p : Obj) : Below w.heap.size w ((w.alloc o).alloc p) := bt (box1 w o) (box1 _ p)
theorem box3 (w : World) (o p q : Obj) : Below w.heap.size w (((w.alloc o).alloc p).alloc q) := bt (box2 w o p) (box1 _ q)
/-- What lies outside of S is as it was. -/
structure Turns (S : Nat → Prop) (w w' : World) : Prop where
  os : w'.os = w.os
  tape : w'.tape = w.tape
  output : w'.output = w.output
  size : w.heap.size ≤ w'.heap.size
  block : ∀ k, k < w.heap.size → ¬ S k → w'.heap[k]? = w.heap[k]?
def NoB : Nat → Prop := fun _ => False
theorem Turns.refl (S : Nat → Prop) (w : World) : Turns S w w := ⟨rfl, rfl, rfl, Nat.le_refl _, fun _ _ _ => rfl⟩
theorem Turns.mono {S T : Nat → Prop} {w w' : World} (h : Turns S w w') (hs : ∀ k, k < w.heap.size → S k → T k) : Turns T w w' := ⟨h.os, h.tape, h.output, h.size, fun k hk hn => h.block k hk (fun s => hn (hs k hk s))⟩
theorem Turns.trans {S : Nat → Prop} {a b c : World} (h : Turns S a b) (k : Turns (fun j => S j ∨ a.heap.size ≤ j) b c) : Turns S a c :=
  ⟨k.os.trans h.os, k.tape.trans h.tape, k.output.trans h.output, Nat.le_trans h.size k.size, fun i hi hn => (k.block i (Nat.lt_of_lt_of_le hi h.size) (fun e => e.elim hn (fun e => absurd hi (by omega)))).trans (h.block i hi hn)⟩
theorem Turns.of_below {S : Nat → Prop} {w w' : World} (h : Below w.heap.size w w') : Turns S w w' := ⟨h.os, h.tape, h.output, h.size, fun k hk _ => h.block k hk⟩
theorem Turns.of_grown {S : Nat → Prop} {w w' : World} {row : Option Nat} (h : w.grownBy w' row) (hr : ∀ k, row = some k → S k) : Turns S w w' := ⟨h.os, h.tape, h.output, h.size, fun k hk hn => h.block k hk (fun e => hn (hr k e.symm))⟩
theorem Turns.set {S : Nat → Prop} (w : World) {p : Addr} (hp : S p.block) (u : Value) : Turns S w (w.setCell p u) := ⟨rfl, rfl, rfl, by simp [World.setCell], fun k hk hn => Below.heap_setCell _ _ _ _ (fun e => hn (by rw [e]; exact hp))⟩
theorem Turns.drew {S : Nat → Prop} {a w : World} (h : Turns S a w) : Turns S a w.drew := ⟨h.os, h.tape, h.output, h.size, h.block⟩
theorem Turns.undrew {S : Nat → Prop} {w w' : World} (h : Turns S w.drew w') : Turns S w w' := ⟨h.os, h.tape, h.output, h.size, h.block⟩
theorem Turns.below {S : Nat → Prop} {w w' : World} {B : Nat} (h : Turns S w w') (hB : ∀ k, S k → B ≤ k) (hs : B ≤ w.heap.size) : Below B w w' :=
  ⟨h.os, h.tape, h.output, h.size, fun k hk => h.block k (by omega) (fun s => absurd (hB k s) (by omega))⟩
theorem Turns.nob {w w' : World} (h : Turns NoB w w') : Below w.heap.size w w' := h.below (fun _ s => s.elim) (Nat.le_refl _)
theorem Turns.same {S : Nat → Prop} {w w' : World} (h : Turns S w w') {k : Nat} {o : Obj} (hn : ¬ S k) (ho : w.heap[k]? = some o) : w'.heap[k]? = some o :=
  (h.block k (Array.getElem?_eq_some_iff.1 ho).1 hn).trans ho
abbrev W64 (x : Int) : Prop := (Lit.int .i64 x).wf = true
theorem w64_of {x : Int} (h : -9223372036854775808 ≤ x ∧ x ≤ 9223372036854775807) : W64 x := WalkArith.wf_i64 h
theorem w64_range {x : Int} (h : W64 x) : -9223372036854775808 ≤ x ∧ x ≤ 9223372036854775807 := by
  have h' : (decide (IntKind.i64.min ≤ x) && decide (x ≤ IntKind.i64.max)) = true := h
  rw [Bool.and_eq_true, decide_eq_true_iff, decide_eq_true_iff] at h'
  exact h'
abbrev ptr (p : Nat) : Value := .pointer (some ⟨p, 0, none⟩)
abbrev itv (k n : Int) : Value := .agg #[.int .i64 k, .int .i64 n]
/-- The law's order. -/
def ah (k j : Int) : Bool := decide (k / 4 < j / 4)
theorem ahead_any (k n j m : Int) (w : World) : Calls Try.prog 8 #[itv k n, itv j m] w fun e w' => e = .returned (.bool (ah k j)) ∧ w' = (w.alloc (.cells #[.int .i64 k, .int .i64 n] 26)).alloc (.cells #[.int .i64 j, .int .i64 m] 26) := by
  go_enter Try.func8, Try.ntmps8
  go_wp2
  go_ret
  trace_state
  exact ⟨ret_bool (by simp [ah]), rfl⟩
end Go.Proofs.Ytdhiomahcilffaa
