/-
  A heap in memory; its order, asked.
-/
import Derived.Test.YtdhiomahcilffaaBase
import Derived.Defers
import Derived.Recover
import Derived.Laws.Pointers
import Derived.Deep.RegionHeld3
namespace Go.Proofs.Ytdhiomahcilffaa
open Go.RowKit
set_option linter.unusedVariables false
set_option linter.unusedSimpArgs false
/-- What is left where the code goes on as usual, and no other way out. -/
def Only (R : Act → World → Prop) : Exit → Act → World → Prop
  | .normal, a, w => R a w
  | _, _, _ => False
theorem wp_only {c : Code} {Q : Exit → Act → World → Prop} {a : Act} {w : World} (h : Code.wp Try.prog c (Only (fun a' w' => Q .normal a' w')) a w) : Code.wp Try.prog c Q a w := by
  refine Code.wp_mono ?_ h
  rintro (_ | _ | _ | _ | _) a' w' hO
  all_goals first | exact hO.elim | exact hO
structure It where
  k : Int
  n : Int
  p : Int
def It.cs (t : It) : List Value := [.int .i64 t.k, .int .i64 t.n, .int .i64 t.p]
abbrev It.v (t : It) : Value := .agg #[.int .i64 t.k, .int .i64 t.n, .int .i64 t.p]
abbrev fn8 : Value := .func (.func 8) #[] #[]
/-- In block b lies a heap: its row of items, how many were pushed, whether its order is at work. -/
def Hp (w : World) (b : Nat) (v : Value) (n : Int) (q : Bool) : Prop := w.heap[b]? = some (.cells #[fn8, v, .int .i64 n, .bool q] 56 (0, 0))
section
variable {w w' : World} {b : Nat} {v : Value} {n : Int} {q : Bool}
theorem Hp.lt (h : Hp w b v n q) : b < w.heap.size := (Array.getElem?_eq_some_iff.1 h).1
theorem Hp.kept {S : Nat → Prop} (h : Hp w b v n q) (ht : Turns S w w') (hs : ¬ S b) : Hp w' b v n q := ht.same hs h
theorem Hp.c (h : Hp w b v n q) (j : Nat) : w.cell? ⟨b, j, none⟩ = (#[fn8, v, .int .i64 n, .bool q] : Array Value)[j]? := cell_of_row w b j _ _ _ h
theorem Hp.f (h : Hp w b v n q) (j : Nat) : w.frozen? ⟨b, j, none⟩ = false := by
  have h' : w.heap[b]? = _ := h
  simp [World.frozen?, h']
theorem Hp.ne_row (h : Hp w b v n q) {u : Value} {e : TypeId} {k m : Nat} {xs : List Value} (hv : w.ownsRow 0 e k u m xs) (he : e ≠ 56) : u.ownBlock ≠ some b := by
  intro hh
  rcases hv.2 with ⟨rfl, _⟩ | ⟨g, cap, cur, rfl, hb, hg, _⟩
  · simp [Value.ownBlock] at hh
  · simp [Value.ownBlock] at hh
    subst hh
    rw [show w.heap[g]? = _ from h] at hg
    simp at hg
    exact he hg.2.symm
theorem Hp.set1 (h : Hp w b v n q) (u : Value) : Hp (w.setCell ⟨b, 1, none⟩ u) b u n q := by
  have h' : w.heap[b]? = _ := h
  have hlt := h.lt
  unfold Hp
  simp [World.setCell, Array.getElem?_modify, h']
theorem Hp.set2 (h : Hp w b v n q) (m : Int) : Hp (w.setCell ⟨b, 2, none⟩ (.int .i64 m)) b v m q := by
  have h' : w.heap[b]? = _ := h
  have hlt := h.lt
  unfold Hp
  simp [World.setCell, Array.getElem?_modify, h']
theorem Hp.set3 (h : Hp w b v n q) (r : Bool) : Hp (w.setCell ⟨b, 3, none⟩ (.bool r)) b v n r := by
  have h' : w.heap[b]? = _ := h
  have hlt := h.lt
  unfold Hp
  simp [World.setCell, Array.getElem?_modify, h']
end
theorem neq_nil (w : World) : Sem.run Try.prog (binOp .neq 27 fn8 .nilFunc) w = .ok (.bool true) w := by kernel_rfl
theorem eql_nil (w : World) : Sem.run Try.prog (binOp .eql 27 fn8 .nilFunc) w = .ok (.bool false) w := by kernel_rfl
/-- The order's watch: it tells that the order is no longer at work. -/
theorem watch_idle (b c : Nat) (v : Value) (n : Int) (q : Bool) (w : World) (h : Hp w b v n q) (hc : w.cell? ⟨c, 0, none⟩ = some (ptr b)) :
    CallsD Try.prog 36 #[.pointer (some ⟨c, 0, none⟩)] .returning w fun e u' w' => e = .returned (.tuple #[]) ∧ u' = .returning ∧ w' = w.setCell ⟨b, 3, none⟩ (.bool false) := by
  have c3 : w.cell? ⟨b, 3, none⟩ = some (.bool q) := h.c 3
  have f3 := h.f 3
  refine callsD_of_wpS Try.func36 rfl fun c₀ cs hu => ?_
  apply wpS_seq
  apply wpS_region
  simp [wpOpsS, go_sem, recoverD, hu, hc, c3, f3, Try.ntmps36, Exit.thenS]
  apply wpS_region
  cases c₀
  simp_all [wpOpsS, go_sem, recoverD, bodyPostS, results, Try.results36, Try.ntmps36, Exit.thenS]




set_option maxRecDepth 100000 in
set_option maxHeartbeats 2000000 in
theorem ahead_is (b : Nat) (v : Value) (n : Int) (k m j o : Int) (w : World) (h : Hp w b v n false) :
    Calls Try.prog 34 #[ptr b, itv k m, itv j o] w fun e w' => e = .returned (.bool (ah k j)) ∧ Below w.heap.size w w' := by
  have hmf : ∀ (fn : Fn) (first cap : Array Value) (w : World), (Instr.makeFunc fn first cap).run Try.prog w = .ok (.func fn first cap) w := fun _ _ _ _ => rfl
  have hl := h.lt
  have B0 := box3 w (.cells #[ptr b] 23) (.cells #[.int .i64 k, .int .i64 m] 26) (.cells #[.int .i64 j, .int .i64 o] 26)
  have e0 : (((w.alloc (.cells #[ptr b] 23)).alloc (.cells #[.int .i64 k, .int .i64 m] 26)).alloc (.cells #[.int .i64 j, .int .i64 o] 26)).cell? ⟨w.heap.size, 0, none⟩ = some (ptr b) := by simp [go_sem]
  have e1 : (((w.alloc (.cells #[ptr b] 23)).alloc (.cells #[.int .i64 k, .int .i64 m] 26)).alloc (.cells #[.int .i64 j, .int .i64 o] 26)).cell? ⟨w.heap.size + 1, 0, none⟩ = some (.int .i64 k) := by simp [go_sem]
  have e2 : (((w.alloc (.cells #[ptr b] 23)).alloc (.cells #[.int .i64 k, .int .i64 m] 26)).alloc (.cells #[.int .i64 j, .int .i64 o] 26)).cell? ⟨w.heap.size + 1, 1, none⟩ = some (.int .i64 m) := by simp [go_sem]
  have e3 : (((w.alloc (.cells #[ptr b] 23)).alloc (.cells #[.int .i64 k, .int .i64 m] 26)).alloc (.cells #[.int .i64 j, .int .i64 o] 26)).cell? ⟨w.heap.size + 1 + 1, 0, none⟩ = some (.int .i64 j) := by simp [go_sem]
  have e4 : (((w.alloc (.cells #[ptr b] 23)).alloc (.cells #[.int .i64 k, .int .i64 m] 26)).alloc (.cells #[.int .i64 j, .int .i64 o] 26)).cell? ⟨w.heap.size + 1 + 1, 1, none⟩ = some (.int .i64 o) := by simp [go_sem]
  have hz0 : (((w.alloc (.cells #[ptr b] 23)).alloc (.cells #[.int .i64 k, .int .i64 m] 26)).alloc (.cells #[.int .i64 j, .int .i64 o] 26)).heap.size = w.heap.size + 3 := by simp
  obtain ⟨X, hX⟩ : ∃ X, (((w.alloc (.cells #[ptr b] 23)).alloc (.cells #[.int .i64 k, .int .i64 m] 26)).alloc (.cells #[.int .i64 j, .int .i64 o] 26)) = X := ⟨_, rfl⟩
  rw [hX] at B0 e0 e1 e2 e3 e4 hz0
  have hX0 : Hp X b v n false := h.kept (S := NoB) (Turns.of_below B0) id
  have c3 : X.cell? ⟨b, 3, none⟩ = some (.bool false) := hX0.c 3
  have f3 := hX0.f 3
  have hY := hX0.set3 true
  have TY : Turns (fun k => k = b) X (X.setCell ⟨b, 3, none⟩ (.bool true)) := Turns.set (S := fun k => k = b) X (p := ⟨b, 3, none⟩) rfl _
  have g0 : (X.setCell ⟨b, 3, none⟩ (.bool true)).cell? ⟨b, 0, none⟩ = some fn8 := hY.c 0
  have cy : ∀ q i, w.heap.size ≤ q → (X.setCell ⟨b, 3, none⟩ (.bool true)).cell? ⟨q, i, none⟩ = X.cell? ⟨q, i, none⟩ := fun q i hq => World.cell?_setCell_other _ _ _ _ (fun e => by cases e; omega)
  have g1 := (cy w.heap.size 0 (by omega)).trans e0
  have g2 := (cy (w.heap.size + 1) 0 (by omega)).trans e1
  have g3 := (cy (w.heap.size + 1) 1 (by omega)).trans e2
  have g4 := (cy (w.heap.size + 1 + 1) 0 (by omega)).trans e3
  have g5 := (cy (w.heap.size + 1 + 1) 1 (by omega)).trans e4
  have hzY : (X.setCell ⟨b, 3, none⟩ (.bool true)).heap.size = X.heap.size := by simp [World.setCell]
  obtain ⟨Y, hYe⟩ : ∃ Y, X.setCell ⟨b, 3, none⟩ (.bool true) = Y := ⟨_, rfl⟩
  rw [hYe] at g0 g1 g2 g3 g4 g5 hY TY hzY
  have HX := hide hX
  have HY := hide hYe
  have HZ := hide hz0
  have HZY := hide hzY
  clear hX hYe cy hz0 hzY e1 e2 e3 e4 hX0
  have hfin : ∀ Z, Below Y.heap.size Y Z → Below w.heap.size w (Z.setCell ⟨b, 3, none⟩ (.bool false)) := fun Z hZ => by
    have hy1 : Y.heap.size = X.heap.size := HZY.out
    have hHZ : Hp Z b v n true := hY.kept (S := NoB) (Turns.of_below hZ) id
    refine ⟨?_, ?_, ?_, ?_, fun i hi => ?_⟩
    · exact (hZ.os.trans TY.os).trans B0.os
    · exact (hZ.tape.trans TY.tape).trans B0.tape
    · exact (hZ.output.trans TY.output).trans B0.output
    · have := hZ.size
      have := B0.size
      simp [World.setCell]; omega
    · by_cases hib : i = b
      · subst hib
        exact (hHZ.set3 false).trans (show w.heap[i]? = _ from h).symm
      · have q1 : (Z.setCell ⟨b, 3, none⟩ (.bool false)).heap[i]? = Z.heap[i]? := Below.heap_setCell _ _ _ _ (fun e => hib e)
        rw [q1, hZ.block i (by have := B0.size; omega), TY.block i (by have := B0.size; omega) hib, B0.block i hi]
  have HF := hide hfin
  have hB2 : ∀ o1 o2, Below Y.heap.size Y ((Y.drew.alloc o1).alloc o2) := fun o1 o2 => bt ((Below.refl _ _).drew) (box2 Y.drew o1 o2)
  have hH2 : ∀ o1 o2, Hp ((Y.drew.alloc o1).alloc o2) b v n true := fun o1 o2 => hY.kept (S := NoB) (Turns.of_below (hB2 o1 o2)) id
  have hkeep : ∀ o1 o2, ((Y.drew.alloc o1).alloc o2).cell? ⟨b, 0, none⟩ = some fn8 ∧ ((Y.drew.alloc o1).alloc o2).cell? ⟨w.heap.size, 0, none⟩ = some (ptr b) ∧ (((Y.drew.alloc o1).alloc o2).cell? ⟨w.heap.size + 1, 0, none⟩ = some (.int .i64 k) ∧ ((Y.drew.alloc o1).alloc o2).cell? ⟨w.heap.size + 1, 1, none⟩ = some (.int .i64 m)) ∧ ((Y.drew.alloc o1).alloc o2).cell? ⟨w.heap.size + 1 + 1, 0, none⟩ = some (.int .i64 j) ∧ ((Y.drew.alloc o1).alloc o2).cell? ⟨w.heap.size + 1 + 1, 1, none⟩ = some (.int .i64 o) := fun o1 o2 => by
    have hc : ∀ q i u, Y.cell? ⟨q, i, none⟩ = some u → ((Y.drew.alloc o1).alloc o2).cell? ⟨q, i, none⟩ = some u := fun q i u hu => ((hB2 o1 o2).cell (p := ⟨q, i, none⟩) (World.block_lt_of_cell? Y _ hu)).trans hu
    exact ⟨hc _ _ _ g0, hc _ _ _ g1, ⟨hc _ _ _ g2, hc _ _ _ g3⟩, hc _ _ _ g4, hc _ _ _ g5⟩
  clear hfin
  go_enter_defers Try.func34, Try.ntmps34
  go_wp2_with (first | rw [HX.out] | rw [HY.out])
  refine wp_only ?_
  refine wp_region_held_drew (S := fun wx => wx.cell? ⟨b, 0, none⟩ = some fn8 ∧ wx.cell? ⟨w.heap.size, 0, none⟩ = some (ptr b) ∧ (wx.cell? ⟨w.heap.size + 1, 0, none⟩ = some (.int .i64 k) ∧ wx.cell? ⟨w.heap.size + 1, 1, none⟩ = some (.int .i64 m)) ∧ wx.cell? ⟨w.heap.size + 1 + 1, 0, none⟩ = some (.int .i64 j) ∧ wx.cell? ⟨w.heap.size + 1 + 1, 1, none⟩ = some (.int .i64 o)) (by kernel_rfl) ⟨g0, g1, ⟨g2, g3⟩, g4, g5⟩ (fun hHeld => ?_)
  refine wpAnyH_take (i := 0) (v := ?_) rfl (by kernel_rfl) (by kernel_rfl) (by kernel_rfl) (fun _ _ _ h => h.elim) (Or.inl ⟨by rfl, ?_⟩) (by assumption) ?_
  rotate_left
  · intro wx hSw
    try dsimp only at hSw
    go_simp
    try with_reducible rfl
  try simp only [Act.put, List.getElem_toArray, List.getElem_cons_zero, List.getElem_cons_succ, List.setIfInBounds_toArray, List.set_cons_zero, List.set_cons_succ]
  refine wpAnyH_take (i := 1) (v := ?_) rfl (by kernel_rfl) (by kernel_rfl) (by kernel_rfl) (fun _ _ _ h => h.elim) (Or.inl ⟨by rfl, ?_⟩) (by assumption) ?_
  rotate_left
  · intro wx hSw
    try dsimp only at hSw
    go_simp
    try with_reducible rfl
  try simp only [Act.put, List.getElem_toArray, List.getElem_cons_zero, List.getElem_cons_succ, List.setIfInBounds_toArray, List.set_cons_zero, List.set_cons_succ]
  refine wpAnyH_take (i := 2) (v := ?_) rfl (by kernel_rfl) (by kernel_rfl) (by kernel_rfl) (fun _ _ _ h => h.elim) (Or.inl ⟨by rfl, ?_⟩) (by assumption) ?_
  rotate_left
  · intro wx hSw
    try dsimp only at hSw
    go_simp
    try with_reducible rfl
  try simp only [Act.put, List.getElem_toArray, List.getElem_cons_zero, List.getElem_cons_succ, List.setIfInBounds_toArray, List.set_cons_zero, List.set_cons_succ]
  refine wpAnyH_take (i := 3) (v := ?_) rfl (by kernel_rfl) (by kernel_rfl) (by kernel_rfl) (fun _ _ _ h => h.elim) (Or.inl ⟨by rfl, ?_⟩) (by assumption) ?_
  rotate_left
  · intro wx hSw
    try dsimp only at hSw
    go_simp
    try with_reducible rfl
  try simp only [Act.put, List.getElem_toArray, List.getElem_cons_zero, List.getElem_cons_succ, List.setIfInBounds_toArray, List.set_cons_zero, List.set_cons_succ]
  refine wpAnyH_take (i := 4) (v := ?_) rfl (by kernel_rfl) (by kernel_rfl) (by kernel_rfl) (fun _ _ _ h => h.elim) (Or.inl ⟨by rfl, ?_⟩) (by assumption) ?_
  rotate_left
  · intro wx hSw
    try dsimp only at hSw
    go_simp
    try with_reducible rfl
  try simp only [Act.put, List.getElem_toArray, List.getElem_cons_zero, List.getElem_cons_succ, List.setIfInBounds_toArray, List.set_cons_zero, List.set_cons_succ]
  refine wpAnyH_take (i := 5) (v := ?_) rfl (by kernel_rfl) (by kernel_rfl) (by kernel_rfl) (fun _ _ _ h => h.elim) (Or.inl ⟨by rfl, ?_⟩) (by assumption) ?_
  rotate_left
  · intro wx hSw
    try dsimp only at hSw
    go_simp
    try with_reducible rfl
  try simp only [Act.put, List.getElem_toArray, List.getElem_cons_zero, List.getElem_cons_succ, List.setIfInBounds_toArray, List.set_cons_zero, List.set_cons_succ]
  refine wpAnyH_ready (rs := [6]) (by kernel_rfl) (by simp) ?_
  refine AllReadyH.cons rfl (fun K hK => ?_) ?_
  · go_simp
    refine (ahead_any _ _ _ _ _).mono ?_
    rintro e v1 ⟨rfl, rfl⟩
    try go_wp2_with fail
    refine hK.out _ _ ?_ (fun hHeld => ?_)
    · exact hkeep _ _
    clear hK K
    try simp only [Act.put, List.getElem_toArray, List.getElem_cons_zero, List.getElem_cons_succ, List.setIfInBounds_toArray, List.set_cons_zero, List.set_cons_succ]
    refine wpAnyH_take (i := 7) (v := ?_) rfl (by kernel_rfl) (by kernel_rfl) (by kernel_rfl) (fun _ _ _ h => h.elim) (Or.inl ⟨by rfl, ?_⟩) (by assumption) ?_
    rotate_left
    · intro wx hSw
      try dsimp only at hSw
      go_simp
      try with_reducible rfl
    try simp only [Act.put, List.getElem_toArray, List.getElem_cons_zero, List.getElem_cons_succ, List.setIfInBounds_toArray, List.set_cons_zero, List.set_cons_succ]
    refine wpAnyH_done (by kernel_rfl) ?_ _
    simp only [Only, Exit.then]
    go_wp2_with fail
    refine leaves_cons (f := 36) (args := #[.pointer (some ⟨w.heap.size, 0, none⟩)]) (by simp) (by simp [go_sem]) ?_
    refine (watch_idle b w.heap.size v n true _ ?_ ?_).mono ?_
    · exact hH2 _ _
    · exact (hkeep _ _).2.1
    rintro e u2 w2 ⟨rfl, rfl, rfl⟩
    exact ⟨_, results_tmp rfl _ _ _, rfl, HF.out _ (hB2 _ _)⟩
  exact AllReadyH.nil
theorem turns_any (b : Nat) (v : Value) (n : Int) (q : Bool) (w : World) (h : Hp w b v n q) :
    Calls Try.prog 22 #[ptr b] w fun e w' => e = .returned (.bool (!q)) ∧ w' = w := by
  have c0 : w.cell? ⟨b, 0, none⟩ = some fn8 := h.c 0
  have c3 : w.cell? ⟨b, 3, none⟩ = some (.bool q) := h.c 3
  have hq := neq_nil
  go_enter Try.func22, Try.ntmps22
  go_wp2
  go_ret
  exact ⟨rfl, rfl⟩
theorem len_any (b : Nat) (a : Option Addr) (m cap : Nat) (n : Int) (q : Bool) (w : World) (h : Hp w b (.slice a m cap) n q) :
    Calls Try.prog 12 #[ptr b] w fun e w' => e = .returned (.int .i64 (m : Nat)) ∧ w' = w := by
  have c1 : w.cell? ⟨b, 1, none⟩ = some (.slice a m cap) := h.c 1
  go_enter Try.func12, Try.ntmps12
  go_wp2
  go_ret
  exact ⟨rfl, rfl⟩
theorem new_any (w : World) : Calls Try.prog 7 #[fn8] w fun e w' => e = .returned (ptr w.heap.size) ∧ w' = w.alloc (.cells #[fn8, .slice none 0 0, .int .i64 0, .bool false] 56) := by
  have hq := eql_nil
  go_enter Try.func7, Try.ntmps7
  go_wp2
  go_ret
  exact ⟨rfl, rfl⟩
end Go.Proofs.Ytdhiomahcilffaa
