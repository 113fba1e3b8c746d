/-
  Nobody's heap: nil, or the zero one.
-/
import Derived.Test.YtdhiomahcilffaaAwake
import Derived.RangeFuncNested
import Derived.RangeFuncBound
import Derived.RangeFuncCalls
import Derived.RangeFuncLeaves
import Derived.Shelf.Abstract
import Derived.Shelf.RegionOpen
import Derived.WalkKit
import Derived.OwnWalkIn
import Derived.TacticsInMore
import Derived.LoopNIn
import Derived.LoopIn
import Derived.BigRegionIn
import Derived.RegionIn
namespace Go.Proofs.Ytdhiomahcilffaa
open Go.RowKit Go.Shelf
set_option linter.unusedVariables false
set_option linter.unusedSimpArgs false
attribute [local go_sem] Oper.semAt_some
def Nob (w : World) (v : Value) : Prop := v = .pointer none ∨ ∃ p, v = ptr p ∧ w.heap[p]? = some (.cells #[.nilFunc, .slice none 0 0, .int .i64 0, .bool false] 46 (0, 0))
theorem Nob.upto {w w' : World} {v : Value} (h : Nob w v) (hb : Below w.heap.size w w') : Nob w' v := by
  rcases h with h | ⟨p, h1, h2⟩
  · exact .inl h
  · exact .inr ⟨p, h1, (hb.block p (Array.getElem?_eq_some_iff.1 h2).1).trans h2⟩
theorem nilF_eq (w : World) : Sem.run Try.prog (binOp .eql 43 .nilFunc .nilFunc) w = .ok (.bool true) w := by kernel_rfl
theorem nilF_ne (w : World) : Sem.run Try.prog (binOp .neq 43 .nilFunc .nilFunc) w = .ok (.bool false) w := by kernel_rfl
theorem nob_new (w : World) : Calls Try.prog 16 #[.nilFunc] w fun e w' => e = .returned (.pointer none) ∧ w' = w := by
  have hq := nilF_eq
  go_enter Try.func16, Try.ntmps16
  go_wp2
  go_ret
  exact ⟨rfl, rfl⟩
theorem nob_turns (v : Value) (w : World) (h : Nob w v) : Calls Try.prog 26 #[v] w fun e w' => e = .returned (.bool false) ∧ w' = w := by
  have hq := nilF_ne
  rcases h with rfl | ⟨p, rfl, hp⟩
  · go_enter Try.func26, Try.ntmps26
    go_wp2
    go_ret
    exact ⟨rfl, rfl⟩
  · have c0 : w.cell? ⟨p, 0, none⟩ = some .nilFunc := cell_of_row w p 0 _ _ _ hp
    go_enter Try.func26, Try.ntmps26
    go_wp2
    go_ret
    exact ⟨rfl, rfl⟩
theorem nob_len (v : Value) (w : World) (h : Nob w v) : Calls Try.prog 21 #[v] w fun e w' => e = .returned (.int .i64 0) ∧ w' = w := by
  rcases h with rfl | ⟨p, rfl, hp⟩
  · go_enter Try.func21, Try.ntmps21
    go_wp2
    go_ret
    exact ⟨rfl, rfl⟩
  · have c1 : w.cell? ⟨p, 1, none⟩ = some (.slice none 0 0) := cell_of_row w p 1 _ _ _ hp
    go_enter Try.func21, Try.ntmps21
    go_wp2
    go_ret
    exact ⟨rfl, rfl⟩
theorem nob_push (v : Value) (x : Int) (w : World) (h : Nob w v) : Calls Try.prog 17 #[v, .int .i64 x] w fun e w' => e = .returned (.tuple #[]) ∧ Below w.heap.size w w' := by
  have HT : Hid (∀ wx, Below w.heap.size w wx → Calls Try.prog 26 #[v] wx fun e w' => e = .returned (.bool false) ∧ w' = wx) := hide fun wx hx => nob_turns v wx (h.upto hx)
  clear h
  go_enter Try.func17, Try.ntmps17
  go_wp2_with (go_at_call 26; refine (HT.out _ (by first | exact Below.refl _ _ | exact box1 _ _)).mono ?_; rintro e w1 ⟨rfl, rfl⟩)
  refine bodyPost_ret (results_none rfl _ _ _) rfl ?_
  first | exact ⟨rfl, Below.refl _ _⟩ | exact ⟨rfl, box1 _ _⟩
theorem nob_pop (v : Value) (w : World) (h : Nob w v) : Calls Try.prog 18 #[v] w fun e w' => e = .returned (.tuple #[.int .i64 0, .bool false]) ∧ w' = w := by
  have HL := hide (nob_len v w h)
  clear h
  go_enter Try.func18, Try.ntmps18
  go_wp2_with (go_at_call 21; refine HL.out.mono ?_; rintro e w1 ⟨rfl, hw1⟩; have hw2 := hw1.symm; subst hw2)
  refine bodyPost_ret (results_tmp2 rfl _ _ _) rfl ?_
  exact ⟨rfl, rfl⟩
theorem nob_top (v : Value) (w : World) (h : Nob w v) : Calls Try.prog 19 #[v] w fun e w' => e = .returned (.tuple #[.int .i64 0, .bool false]) ∧ w' = w := by
  have HL := hide (nob_len v w h)
  clear h
  go_enter Try.func19, Try.ntmps19
  go_wp2_with (go_at_call 21; refine HL.out.mono ?_; rintro e w1 ⟨rfl, hw1⟩; have hw2 := hw1.symm; subst hw2)
  refine bodyPost_ret (results_tmp2 rfl _ _ _) rfl ?_
  exact ⟨rfl, rfl⟩
theorem drain_int (o : Option Addr) (w : World) : Calls Try.prog 20 #[.pointer o] w fun e w' => e = .returned (.func (.func 29) #[] #[ptr w.heap.size]) ∧ w' = w.alloc (.cells #[.pointer o] 41) := by
  go_enter Try.func20, Try.ntmps20
  go_wp2_with fail
  go_ret
  exact ⟨rfl, rfl⟩
theorem below_grown {W W' : World} (h : Below W.heap.size W W') : W.grownBy W' none := ⟨h.os, h.tape, h.output, h.size, fun k hk _ => h.block k hk⟩
/-- One block is as it was. -/
def KB (B : Nat) (W W' : World) : Prop := W'.heap[B]? = W.heap[B]?
theorem kB_t {B : Nat} {X Y Z : World} (h : KB B X Y) (k : KB B Y Z) : KB B X Z := Eq.trans k h
theorem kB_b {B : Nat} {w : World} (hB : B < w.heap.size) (W : World) (l : Nat) (o o' : Obj) (hl : w.heap.size ≤ l) (h : W.heap[l]? = some o) (_ : o.isCells = false) (_ : o.isWalk = false) : KB B W (W.putObj l o') :=
  (grownBy_putObj' W l o').block B (by have := (Array.getElem?_eq_some_iff.1 h).1; omega) (fun e => by cases e; omega)
abbrev encI (x : Int) : Array Value := #[.int .i64 x]
theorem boxed_upto {W W' : World} {B : Nat} {t : TypeId} {u : Value} (h : Boxed W B t u) (hb : Below W.heap.size W W') : Boxed W' B t u := (hb.block B (Array.getElem?_eq_some_iff.1 h).1).trans h
set_option maxRecDepth 100000 in
set_option maxHeartbeats 1000000 in
theorem nob_stops (n B N : Nat) (v : Value) (w : World) (hB : Boxed w B 41 v) (h : Nob w v) :
    SeqStopsK Fence.wide n Try.prog 29 #[ptr B] encI (KB B) (fun xs => xs = []) (fun pre => pre = []) N w := fun l J Jx W hW hJ hJx hY h0 => by
  have cB := (boxed_upto hB hW).cell
  have HM := hide (nob_pop v W (h.upto hW))
  refine callsIn_of_wp Try.func29 rfl trivial ?_ rfl
  simp only [Try.ntmps29, List.size_toArray, List.length_cons, List.length_nil, Nat.reduceAdd, Nat.reduceSub, Array.replicate_succ, Array.replicate_zero, List.push_toArray, List.append_toArray, List.nil_append, List.cons_append]
  gi_wp2_with fail
  refine wpIn_loop_rounds 1 ?_
  rw [roundsIn_succ]
  gi_wp2_with fail
  refine ⟨trivial, fun h => (by cases h), ?_⟩
  refine (callsIn_wide.2 HM.out).mono ?_
  rintro e w1 ⟨rfl, hw1⟩
  have hw2 := hw1.symm
  subst hw2
  gi_wp2_with fail
  refine ⟨fun f h => (by cases h), ?_⟩
  gi_wp2_with fail
  refine bodyPost_ret (results_none rfl _ _ _) rfl ?_
  exact ⟨⟨_, rfl⟩, .inl ⟨[], rfl, h0⟩⟩
end Go.Proofs.Ytdhiomahcilffaa
