/-
  Boxes read in every later world; the answers of Meet and Hull as four numbers.
-/
import Derived.Test.YtggaobcdogbjhaaGreatDoorSpan
import Derived.Test.YtggaobcdogbjhaaGreatDoorLat
namespace Go.Proofs.YtggaobcdogbjhaaGreatDoor
open Go.RowKit
set_option linter.unusedVariables false
theorem mtV_lit (x y a b p q c d : Int) : ∃ k0 k1 k2 k3 : Int, mtV x y a b p q c d = .agg #[.int .i64 k0, .int .i64 k1, .int .i64 k2, .int .i64 k3] := by
  cases h : mtB x y a b p q c d
  · exact ⟨_, _, _, _, mtV_no h⟩
  · exact ⟨_, _, _, _, mtV_yes h⟩
theorem huV_lit (x y a b p q c d : Int) : ∃ k0 k1 k2 k3 : Int, huV x y a b p q c d = .agg #[.int .i64 k0, .int .i64 k1, .int .i64 k2, .int .i64 k3] := by
  cases h : huB x y a b p q c d
  · exact ⟨_, _, _, _, huV_no h⟩
  · exact ⟨_, _, _, _, huV_yes h⟩
theorem Four.lat {W : World} {k : Nat} {x y a b : Int} (h : Four W k x y a b) : (∀ n : Lat W, n.w.cell? ⟨k, 0, none⟩ = some (.int .i64 x)) ∧ (∀ n : Lat W, n.w.cell? ⟨k, 1, none⟩ = some (.int .i64 y)) ∧ (∀ n : Lat W, n.w.cell? ⟨k, 2, none⟩ = some (.int .i64 a)) ∧ (∀ n : Lat W, n.w.cell? ⟨k, 3, none⟩ = some (.int .i64 b)) :=
  ⟨fun n => (h.kept n.h).1.1, fun n => (h.kept n.h).1.2.1, fun n => (h.kept n.h).1.2.2.1, fun n => (h.kept n.h).1.2.2.2⟩
theorem Two.lat {W : World} {k : Nat} {x y : Int} (h : Two W k x y) : (∀ n : Lat W, n.w.cell? ⟨k, 0, none⟩ = some (.int .i64 x)) ∧ (∀ n : Lat W, n.w.cell? ⟨k, 1, none⟩ = some (.int .i64 y)) :=
  ⟨fun n => (h.kept n.h).1.1, fun n => (h.kept n.h).1.2⟩
theorem Four.at {w w1 : World} {u v s r : Int} {t : TypeId} (h : Below (w.alloc (.cells #[.int .i64 u, .int .i64 v, .int .i64 s, .int .i64 r] t)).heap.size (w.alloc (.cells #[.int .i64 u, .int .i64 v, .int .i64 s, .int .i64 r] t)) w1) : Four w1 w.heap.size u v s r := cells4 h
end Go.Proofs.YtggaobcdogbjhaaGreatDoor
