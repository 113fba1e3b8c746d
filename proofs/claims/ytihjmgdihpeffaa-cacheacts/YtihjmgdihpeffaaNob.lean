/-
  A cache that nobody made: what it tells.
-/
import Derived.Test.YtihjmgdihpeffaaAwk
import Derived.RangeFuncNested
import Derived.RangeFuncBound
import Derived.RangeFuncCalls
import Derived.RangeFuncLeaves
import Derived.Shelf.Abstract
import Derived.Shelf.RegionOpen
import Derived.OwnWalkIn
import Derived.TacticsInMore
import Derived.LoopNIn
import Derived.LoopIn
namespace Go.Proofs.Ytihjmgdihpeffaa
open Go.RowKit Go.Shelf
set_option linter.unusedVariables false
attribute [local go_sem] Oper.semAt_some
/-- Nobody's cache: none, or all zero. -/
def Nob (w : World) (v : Value) : Prop := v = .pointer none ∨ ∃ p, v = ptr p ∧ Bk w p 61 [.int .i64 0, .int .i64 0, .map none, .slice none 0 0]
theorem Nob.kept {w w' : World} {v : Value} (h : Nob w v) (hb : Below w.heap.size w w') : Nob w' v := by
  rcases h with h | ⟨p, h, hp⟩
  · exact .inl h
  · exact .inr ⟨p, h, hp.upto hb⟩
theorem nob_made {w : World} {v : Value} (h : Nob w v) : Calls Try.prog 17 #[v] w fun e w' => e = .returned (.bool false) ∧ w' = w := by
  rcases h with rfl | ⟨p, rfl, hp⟩
  · exact made_nil w
  · exact made_zero p w (hp.cell 2 _ rfl)
set_option maxHeartbeats 1000000 in
theorem nob_len {w : World} {v : Value} (h : Nob w v) : Calls Try.prog 15 #[v] w fun e w' => e = .returned (.int .i64 0) ∧ w' = w := by
  have HM := hide (nob_made h)
  rcases h with rfl | ⟨p, rfl, -⟩
  all_goals
    go_enter Try.func15, Try.ntmps15
    go_wp2_with (go_at_call 17; refine HM.out.mono ?_; rintro e w1 ⟨rfl, rfl⟩)
    go_ret
    exact ⟨rfl, rfl⟩
set_option maxHeartbeats 1000000 in
theorem nob_put {w : World} {v : Value} (q : K6) (e o : Int) (u : Value) (h : Nob w v) : Calls Try.prog 12 #[v, kv q, .int .i64 e, wy o u] w fun en w' => en = .returned (.int .i64 1) ∧ Below w.heap.size w w' := by
  obtain ⟨X, hX⟩ : ∃ X, (w.alloc (.cells #[.int .i64 q.1, .int .i64 q.2.1, .int .i64 q.2.2.1, .int .i64 q.2.2.2.1, .int .i64 q.2.2.2.2.1, .int .i64 q.2.2.2.2.2] 36)).alloc (.cells #[.int .i64 o, u] 39) = X := ⟨_, rfl⟩
  have B0 : Below w.heap.size w X := by rw [← hX]; exact box2 _ _ _
  have HM := hide (nob_made (h.kept B0))
  have HX := hide hX
  have HB := hide B0
  clear hX B0
  rcases h with rfl | ⟨p, rfl, -⟩
  all_goals
    go_enter Try.func12, Try.ntmps12
    go_wp2_with (rw [HX.out])
    refine HM.out.mono ?_
    rintro e1 w1 ⟨rfl, rfl⟩
    go_wp2_with fail
    go_ret
    exact ⟨rfl, HB.out⟩
set_option maxHeartbeats 1000000 in
theorem nob_get {w : World} {v : Value} (q : K6) (e : Int) (h : Nob w v) : Calls Try.prog 9 #[v, kv q, .int .i64 e] w fun en w' => en = .returned (.tuple #[zW, .bool false]) ∧ Below w.heap.size w w' := by
  obtain ⟨X, hX⟩ : ∃ X, (w.alloc (.cells #[.int .i64 q.1, .int .i64 q.2.1, .int .i64 q.2.2.1, .int .i64 q.2.2.2.1, .int .i64 q.2.2.2.2.1, .int .i64 q.2.2.2.2.2] 36)).alloc (.cells #[.int .i64 0, .slice none 0 0] 39) = X := ⟨_, rfl⟩
  have B0 : Below w.heap.size w X := by rw [← hX]; exact box2 _ _ _
  have K1 : Bk X (w.heap.size + 1) 39 [.int .i64 0, .slice none 0 0] := by rw [← hX]; exact Bk.new2 _ _ _ _
  have HM := hide (nob_made (h.kept B0))
  have y0 := K1.cell 0 _ rfl
  have y1 := K1.cell 1 _ rfl
  have f0 := K1.frozen 0
  have f1 := K1.frozen 1
  have HE := hide ((B0.setCell (p := ⟨w.heap.size + 1, 0, none⟩) (by show w.heap.size ≤ w.heap.size + 1; omega) (.int .i64 0)).setCell (p := ⟨w.heap.size + 1, 1, none⟩) (by show w.heap.size ≤ w.heap.size + 1; omega) (.slice none 0 0))
  have HK := hide ((K1.set 0 (.int .i64 0)).set 1 (.slice none 0 0))
  have e0 := HK.out.cell 0 _ rfl
  have e1 := HK.out.cell 1 _ rfl
  have HX := hide hX
  clear hX K1 B0
  rcases h with rfl | ⟨p, rfl, -⟩
  all_goals
    go_enter Try.func9, Try.ntmps9
    go_wp2_with (rw [HX.out])
    refine HM.out.mono ?_
    rintro e1 w1 ⟨rfl, rfl⟩
    go_wp2_with fail
    exact bodyPost_ret (v := .tuple #[zW, .bool false]) (by simp [results, Try.results9, go_sem, e0, e1]) rfl ⟨rfl, HE.out⟩
set_option maxHeartbeats 1000000 in
theorem all_fn (o : Option Addr) (w : World) : Calls Try.prog 14 #[.pointer o] w fun e w' => e = .returned (.func (.func 22) #[] #[ptr w.heap.size]) ∧ w' = w.alloc (.cells #[.pointer o] 24) := by
  go_enter Try.func14, Try.ntmps14
  go_wp2_with fail
  go_ret
  exact ⟨rfl, rfl⟩
theorem below_grown {W W' : World} (h : Below W.heap.size W W') : W.grownBy W' none := ⟨h.os, h.tape, h.output, h.size, fun k hk _ => h.block k hk⟩
theorem boxed_upto {n₀ : Nat} {W W' : World} {k : Nat} {t : TypeId} {v : Value} (h : Boxed W k t v) (hB : Below n₀ W W') (hk : k < n₀) : Boxed W' k t v := (hB.block k hk).trans h
/-- One block is as it was. -/
def KB (B : Nat) (W W' : World) : Prop := W'.heap[B]? = W.heap[B]?
theorem kB_t {B : Nat} {X Y Z : World} (h : KB B X Y) (k : KB B Y Z) : KB B X Z := Eq.trans k h
theorem kB_b {B : Nat} {w : World} (hB : B < w.heap.size) (W : World) (l : Nat) (o o' : Obj) (hl : w.heap.size ≤ l) (h : W.heap[l]? = some o) (_ : o.isCells = false) (_ : o.isWalk = false) : KB B W (W.putObj l o') :=
  (grownBy_putObj' W l o').block B (by have := (Array.getElem?_eq_some_iff.1 h).1; omega) (fun e => by cases e; omega)
abbrev encN (x : Int) : Array Value := #[kv k0, zW]
set_option maxRecDepth 100000 in
set_option maxHeartbeats 1000000 in
theorem nob_stops (n B N : Nat) (v : Value) (w : World) (hB : Boxed w B 24 v) (h : Nob w v) :
    SeqStopsK Fence.wide n Try.prog 22 #[ptr B] encN (KB B) (fun xs => xs = []) (fun pre => pre = []) N w := fun l J Jx W hW hJ hJx hY h0 => by
  have cB := (boxed_upto hB hW hB.lt).cell
  have HM := hide (nob_made (h.kept hW))
  refine callsIn_of_wp Try.func22 rfl trivial ?_ rfl
  simp only [Try.ntmps22, List.size_toArray, List.length_cons, List.length_nil, Nat.reduceAdd, Nat.reduceSub, Array.replicate_succ, Array.replicate_zero, List.push_toArray, List.append_toArray, List.nil_append, List.cons_append]
  gi_wp2_with fail
  refine ⟨trivial, fun h => (by cases h), ?_⟩
  refine (callsIn_wide.2 HM.out).mono ?_
  rintro e w1 ⟨rfl, rfl⟩
  gi_wp2_with fail
  refine bodyPost_ret (results_none rfl _ _ _) rfl ?_
  exact ⟨⟨_, rfl⟩, .inl ⟨[], rfl, h0⟩⟩
end Go.Proofs.Ytihjmgdihpeffaa
