/-
  A region that draws its order, whose operations only read, and whose calls make memory but turn nothing old: one walk in the text's order. The class of worlds: those that are a given one, and more.
-/
import Derived.Test.YtekpamilcpeanaaDoorBase
import Derived.Deep.QuietTactic
import Derived.BigQuiet
namespace Go.Proofs.YtekpamilcpeanaaDoor
open Go.RowKit
set_option linter.unusedVariables false
/-- A world that has all of W, as it was. -/
structure Lat (W : World) where
  w : World
  h : Below W.heap.size W w
theorem lat_some (W : World) : Nonempty (Lat W) := ⟨⟨W, Below.refl _ _⟩⟩
theorem wp_region_lat {P : Program} {id : Nat} {Q : Exit → Act → World → Prop} {a : Act} {w : World} {l : List Oper} (hm : P.follows .mixedOrders = true) (hB : Region.lexB .any l.toArray = true)
    (h : wpQuiet P l.toArray (fun w' => ∃ n : Lat w, w' = n.w) (fun a' => ∀ w', (∃ n : Lat w, w' = n.w) → Q .normal a' w') l a) : (Code.region id l.toArray true).wp P Q a w :=
  wp_region_quiet (C := fun w' => ∃ n : Lat w, w' = n.w) hm hB ⟨⟨w.drew, (Below.refl _ _).drew⟩, rfl⟩ (by simpa using h)
theorem calls_lat {P : Program} {f : FuncId} {args : Array Value} {W : World} {n : Lat W} {v : Value} (h : Calls P f args n.w fun e w' => e = .returned v ∧ Below n.w.heap.size n.w w') :
    Calls P f args n.w fun e w'' => e = .returned v ∧ ∃ m : Lat W, w'' = m.w :=
  h.mono fun _ w' ⟨he, hb⟩ => ⟨he, ⟨w', bt n.h hb⟩, rfl⟩
theorem calls_lat_same {P : Program} {f : FuncId} {args : Array Value} {W : World} {n : Lat W} {v : Value} (h : Calls P f args n.w fun e w' => e = .returned v ∧ w' = n.w) :
    Calls P f args n.w fun e w'' => e = .returned v ∧ ∃ m : Lat W, w'' = m.w :=
  h.mono fun _ w' ⟨he, hb⟩ => ⟨he, n, hb⟩
theorem Lat.cell {W : World} (n : Lat W) {p : Addr} {v : Value} (hp : p.block < W.heap.size) (h : W.cell? p = some v) : n.w.cell? p = some v := (n.h.cell hp).trans h
end Go.Proofs.YtekpamilcpeanaaDoor
