/-
  The heap's order, asked. The heap's items in memory; which of two is popped before the other; two change places. Which of two of the heap's items is popped before the other. A tree of items in a list: what lift and sink keep, and what they come to (no run of the program). lift and sink.
-/
import Derived.Test.YthiafmlgialbnaaGreatDoorRowS
import Derived.Test.YthiafmlgialbnaaGreatDoorAtW
namespace Go.Proofs.YthiafmlgialbnaaGreatDoor
open Go.RowKit
set_option linter.unusedVariables false
set_option linter.unusedSimpArgs false
theorem run_p60 {ev : Operand → Value} {o : Oper} {w : World} {ad : Addr} {x : Operand} {b : Nat} (ho : o.op = .load 188 x) (hx : ev x = .pointer (some ad)) (hc : w.cell? ad = some (ptr b)) : (execOp ev o).run Tryz.prog w = .ok (.value (ptr b)) w := by
  unfold execOp; rw [ho]; simp only [hx]; go_simp
theorem run_f86 {ev : Operand → Value} {o : Oper} {w : World} {ad : Addr} {x : Operand} (ho : o.op = .load 214 x) (hx : ev x = .pointer (some ad)) (hc : w.cell? ad = some fn31) : (execOp ev o).run Tryz.prog w = .ok (.value fn31) w := by
  unfold execOp; rw [ho]; simp only [hx]; go_simp
theorem run_hf0 {ev : Operand → Value} {o : Oper} {w : World} {x : Operand} {b : Nat} (ho : o.op = .fieldAddr 247 x 0) (hx : ev x = .pointer (some ⟨b, 0, none⟩)) : (execOp ev o).run Tryz.prog w = .ok (.value (.pointer (some ⟨b, 0, none⟩))) w := by
  unfold execOp; rw [ho]; simp only [hx]; go_simp
theorem run_rv {ev : Operand → Value} {o : Oper} {w : World} {x : Operand} {g k : Nat} {p q c d : Int} (ho : o.op = .load 184 x) (hx : ev x = .pointer (some ⟨g, k, none⟩)) (h0 : w.cell? ⟨g, k, none⟩ = some (.int .i64 p)) (h1 : w.cell? ⟨g, k + 1, none⟩ = some (.int .i64 q)) (h2 : w.cell? ⟨g, k + 2, none⟩ = some (.int .i64 c)) (h3 : w.cell? ⟨g, k + 3, none⟩ = some (.int .i64 d)) :
    (execOp ev o).run Tryz.prog w = .ok (.value (rv p q c d)) w := by
  unfold execOp; rw [ho]; simp only [hx]; go_simp
theorem run_ask {ev : Operand → Value} {o : Oper} {w : World} {c : Operand} {ar : Array Operand} {ts : Array TypeId} {vs : Array Value} (hop : o.op = .call { callee := .value c, args := ar, argTypes := ts }) (hf : ev c = fn31) (hvs : ar.map ev = vs) : (execOp ev o).run Tryz.prog w = .ok (.enter 164 vs) w := by
  unfold execOp
  simp only [hop, resolve, hf, hvs]
  go_simp
set_option maxRecDepth 100000 in
set_option maxHeartbeats 2000000 in
theorem ahead_is (b : Nat) (v : Value) (n : Int) (x y c f x2 y2 c2 f2 : Int) (w : World) (h : Hp w b v n false) :
    Calls Tryz.prog 213 #[ptr b, rv x y c f, rv x2 y2 c2 f2] w fun e w' => e = .returned (.bool (decide (f < f2))) ∧ Below w.heap.size w w' := by
  have hmf : ∀ (fn : Fn) (first cap : Array Value) (w : World), (Instr.makeFunc fn first cap).run Tryz.prog w = .ok (.func fn first cap) w := fun _ _ _ _ => rfl
  have hl := h.lt
  obtain ⟨X, hX⟩ : ∃ X, ((w.alloc (.cells #[ptr b] 188)).alloc (.cells #[.int .i64 x, .int .i64 y, .int .i64 c, .int .i64 f] 184)).alloc (.cells #[.int .i64 x2, .int .i64 y2, .int .i64 c2, .int .i64 f2] 184) = X := ⟨_, rfl⟩
  have B0 : Below w.heap.size w X := by rw [← hX]; exact bt (box2 _ _ _) (box1 _ _)
  have e0 : X.cell? ⟨w.heap.size, 0, none⟩ = some (ptr b) := by rw [← hX]; simp [go_sem]
  have F1 : Four X (w.heap.size + 1) x y c f := by rw [← hX]; simp [Four, go_sem]
  have F2 : Four X (w.heap.size + 1 + 1) x2 y2 c2 f2 := by rw [← hX]; simp [Four, go_sem]
  have hz0 : X.heap.size = w.heap.size + 3 := by rw [← hX]; simp
  have hX0 : Hp X b v n false := h.kept (S := NoB) (Turns.of_below B0) id
  have c3 : X.cell? ⟨b, 3, none⟩ = some (.bool false) := hX0.c 3
  have f3 := hX0.f 3
  have TY : Turns (fun k => k = b) X (X.setCell ⟨b, 3, none⟩ (.bool true)) := Turns.set (S := fun k => k = b) X (p := ⟨b, 3, none⟩) rfl _
  have hY := hX0.set3 true
  have hzY : (X.setCell ⟨b, 3, none⟩ (.bool true)).heap.size = X.heap.size := by simp [World.setCell]
  obtain ⟨Y, hYe⟩ : ∃ Y, X.setCell ⟨b, 3, none⟩ (.bool true) = Y := ⟨_, rfl⟩
  rw [hYe] at hY TY hzY
  have g1 : Y.cell? ⟨w.heap.size, 0, none⟩ = some (ptr b) := TY.cell (by omega) e0
  have G1 := F1.turned TY (by omega)
  have G2 := F2.turned TY (by omega)
  have HF : Hid (∀ Z, Below Y.heap.size Y Z → Below w.heap.size w (Z.setCell ⟨b, 3, none⟩ (.bool false))) := hide (fun Z hZ => by
    have hHZ : Hp Z b v n true := hY.kept (S := NoB) (Turns.of_below hZ) id
    have hz1 := hZ.size
    have hz2 := B0.size
    refine ⟨(hZ.os.trans TY.os).trans B0.os, (hZ.tape.trans TY.tape).trans B0.tape, (hZ.output.trans TY.output).trans B0.output, by simp [World.setCell]; omega, fun i hi => ?_⟩
    by_cases hib : i = b
    · subst hib
      exact (hHZ.set3 false).trans (show w.heap[i]? = _ from h).symm
    · have q1 : (Z.setCell ⟨b, 3, none⟩ (.bool false)).heap[i]? = Z.heap[i]? := Below.heap_setCell _ _ _ _ (fun e => hib e)
      rw [q1, hZ.block i (by omega), TY.block i (by omega) hib, B0.block i hi])
  have HB2 : Hid (∀ o1 o2, Below Y.heap.size Y ((Y.drew.alloc o1).alloc o2)) := hide (fun o1 o2 => bt ((Below.refl _ _).drew) (box2 Y.drew o1 o2))
  have HH2 : Hid (∀ o1 o2, Hp ((Y.drew.alloc o1).alloc o2) b v n true) := hide (fun o1 o2 => hY.kept (S := NoB) (Turns.of_below (HB2.out o1 o2)) id)
  have HS : Hid ((fun wx : World => wx.cell? ⟨b, 0, none⟩ = some fn31 ∧ wx.cell? ⟨w.heap.size, 0, none⟩ = some (ptr b) ∧ Four wx (w.heap.size + 1) x y c f ∧ Four wx (w.heap.size + 1 + 1) x2 y2 c2 f2) Y.drew) := hide ⟨hY.c 0, g1, G1, G2⟩
  have HK2 : Hid (∀ o1 o2, (fun wx : World => wx.cell? ⟨b, 0, none⟩ = some fn31 ∧ wx.cell? ⟨w.heap.size, 0, none⟩ = some (ptr b) ∧ Four wx (w.heap.size + 1) x y c f ∧ Four wx (w.heap.size + 1 + 1) x2 y2 c2 f2) ((Y.drew.alloc o1).alloc o2)) := hide (fun o1 o2 => ⟨(HH2.out o1 o2).c 0, ((HB2.out o1 o2).cell (p := ⟨w.heap.size, 0, none⟩) (World.block_lt_of_cell? Y _ g1)).trans g1, G1.kept (HB2.out o1 o2), G2.kept (HB2.out o1 o2)⟩)
  have HX := hide hX
  have HY := hide hYe
  clear hX hYe TY hY hzY B0 F1 F2 g1 G1 G2 hX0 hz0
  go_enter_defers Tryz.func213, Tryz.ntmps213
  go_wp2_with (first | rw [HX.out] | rw [HY.out])
  refine wp_only ?_
  refine wp_region_z (fun wx : World => wx.cell? ⟨b, 0, none⟩ = some fn31 ∧ wx.cell? ⟨w.heap.size, 0, none⟩ = some (ptr b) ∧ Four wx (w.heap.size + 1) x y c f ∧ Four wx (w.heap.size + 1 + 1) x2 y2 c2 f2) [7] (by kernel_rfl) ?_
  refine anyZ_take 0 8 (v := ptr b) rfl (by kernel_rfl) (fun _ _ _ h => h.elim) (Or.inl ⟨by rfl, fun wx hx => run_p60 (by rfl) (by rfl) hx.2.1⟩) HS.out ?_
  try simp only [Act.put, List.getElem_toArray, List.getElem_cons_zero, List.getElem_cons_succ, List.setIfInBounds_toArray, List.set_cons_zero, List.set_cons_succ]
  refine anyZ_take 1 8 (v := ptr b) rfl (by kernel_rfl) (fun _ _ _ h => h.elim) (Or.inl ⟨by rfl, fun wx hx => run_nc (by rfl) (by rfl)⟩) HS.out ?_
  try simp only [Act.put, List.getElem_toArray, List.getElem_cons_zero, List.getElem_cons_succ, List.setIfInBounds_toArray, List.set_cons_zero, List.set_cons_succ]
  refine anyZ_take 2 8 (v := .pointer (some ⟨b, 0, none⟩)) rfl (by kernel_rfl) (fun _ _ _ h => h.elim) (Or.inl ⟨by rfl, fun wx hx => run_hf0 (by rfl) (by rfl)⟩) HS.out ?_
  try simp only [Act.put, List.getElem_toArray, List.getElem_cons_zero, List.getElem_cons_succ, List.setIfInBounds_toArray, List.set_cons_zero, List.set_cons_succ]
  refine anyZ_take 3 8 (v := fn31) rfl (by kernel_rfl) (fun _ _ _ h => h.elim) (Or.inl ⟨by rfl, fun wx hx => run_f86 (by rfl) (by rfl) hx.1⟩) HS.out ?_
  try simp only [Act.put, List.getElem_toArray, List.getElem_cons_zero, List.getElem_cons_succ, List.setIfInBounds_toArray, List.set_cons_zero, List.set_cons_succ]
  refine anyZ_take 4 8 (v := rv x y c f) rfl (by kernel_rfl) (fun _ _ _ h => h.elim) (Or.inl ⟨by rfl, fun wx hx => run_rv (by rfl) (by rfl) hx.2.2.1.1.1 hx.2.2.1.1.2.1 hx.2.2.1.1.2.2.1 hx.2.2.1.1.2.2.2⟩) HS.out ?_
  try simp only [Act.put, List.getElem_toArray, List.getElem_cons_zero, List.getElem_cons_succ, List.setIfInBounds_toArray, List.set_cons_zero, List.set_cons_succ]
  refine anyZ_take 5 8 (v := rv x2 y2 c2 f2) rfl (by kernel_rfl) (fun _ _ _ h => h.elim) (Or.inl ⟨by rfl, fun wx hx => run_rv (by rfl) (by rfl) hx.2.2.2.1.1 hx.2.2.2.1.2.1 hx.2.2.2.1.2.2.1 hx.2.2.2.1.2.2.2⟩) HS.out ?_
  try simp only [Act.put, List.getElem_toArray, List.getElem_cons_zero, List.getElem_cons_succ, List.setIfInBounds_toArray, List.set_cons_zero, List.set_cons_succ]
  refine anyZ_ready (rs := [6]) (by kernel_rfl) (by simp) ?_
  refine readyZ.call rfl rfl (run_ask (by rfl) (by rfl) (by simp only [List.map_toArray, List.map_cons, List.map_nil]; rfl)) (ahead_any x y c f x2 y2 c2 f2 _) ?_ readyZ.nil
  rintro e v1 ⟨rfl, rfl⟩
  refine ⟨_, rfl, fun _ => HK2.out _ _, ?_⟩
  try simp only [Act.put, List.getElem_toArray, List.getElem_cons_zero, List.getElem_cons_succ, List.setIfInBounds_toArray, List.set_cons_zero, List.set_cons_succ]
  refine anyZ_ready (rs := [7]) (by kernel_rfl) (by simp) ?_
  refine readyZ.cons rfl rfl (run_as (v := .bool (decide (f < f2))) (by rfl) (by rfl)) (fun h => absurd (by decide) h) ?_ readyZ.nil
  try simp only [Act.put, List.getElem_toArray, List.getElem_cons_zero, List.getElem_cons_succ, List.setIfInBounds_toArray, List.set_cons_zero, List.set_cons_succ]
  refine anyZ_done (by kernel_rfl) ?_ _
  simp only [Only, Exit.then]
  go_wp2_with fail
  refine leaves_cons (f := 214) (args := #[.pointer (some ⟨w.heap.size, 0, none⟩)]) (by simp) (by simp [go_sem]) ?_
  refine (watch_idle b w.heap.size v n true _ (HH2.out _ _) (HK2.out _ _).2.1).mono ?_
  rintro e u2 w2 ⟨rfl, rfl, rfl⟩
  exact ⟨_, results_tmp rfl _ _ _, rfl, HF.out _ (HB2.out _ _)⟩
end Go.Proofs.YthiafmlgialbnaaGreatDoor
namespace Go.Proofs.YthiafmlgialbnaaGreatDoor
open Go.RowKit
set_option linter.unusedVariables false
set_option linter.unusedSimpArgs false
theorem It.cs_len (l : List It) : (l.flatMap It.cs).length = l.length * 5 := by
  induction l with
  | nil => rfl
  | cons t r ih => rw [List.flatMap_cons, List.length_append, ih]; simp [It.cs]; omega
theorem It.cs_get : ∀ (l : List It) (i : Nat) (t : It) (j : Nat), l[i]? = some t → j < 5 → (l.flatMap It.cs)[i * 5 + j]? = t.cs[j]?
  | [], i, t, j, h, _ => by simp at h
  | s :: r, 0, t, j, h, hj => by
    simp at h; subst h
    rw [List.flatMap_cons, Nat.zero_mul, Nat.zero_add, List.getElem?_append_left (by simp [It.cs]; omega)]
  | s :: r, i + 1, t, j, h, hj => by
    simp at h
    rw [List.flatMap_cons, List.getElem?_append_right (by simp [It.cs]; omega)]
    rw [← It.cs_get r i t j h hj]
    congr 1
    simp [It.cs]; omega
theorem It.cs_set (t : It) : ∀ (L : List It) (j : Nat), j < L.length → (L.set j t).flatMap It.cs = (((((L.flatMap It.cs).set (j * 5) (.int .i64 t.x)).set (j * 5 + 1) (.int .i64 t.y)).set (j * 5 + 2) (.int .i64 t.c)).set (j * 5 + 3) (.int .i64 t.f)).set (j * 5 + 4) (.int .i64 t.p)
  | [], j, h => by simp at h
  | s :: r, 0, _ => by simp [It.cs]
  | s :: r, j + 1, h => by
    have hj : j < r.length := by simpa using h
    rw [List.set_cons_succ, List.flatMap_cons, It.cs_set t r j hj, List.flatMap_cons]
    have hs : s.cs.length = 5 := rfl
    have key : ∀ (R : List Value) (o : Nat) (u : Value), (s.cs ++ R).set ((j + 1) * 5 + o) u = s.cs ++ R.set (j * 5 + o) u := fun R o u => by
      rw [List.set_append, if_neg (by omega), hs, show (j + 1) * 5 + o - 5 = j * 5 + o by omega]
    have k0 := key (r.flatMap It.cs) 0 (.int .i64 t.x)
    simp only [Nat.add_zero] at k0
    rw [k0, key, key, key, key]
/-- The slice v reads as the items l. -/
def Its (w : World) (v : Value) (l : List It) : Prop := w.ownsRow 0 256 5 v l.length (l.flatMap It.cs)
theorem Its.kept {w w' : World} {v : Value} {l : List It} {S : Nat → Prop} (h : Its w v l) (ht : Turns S w w') (hs : ∀ k, v.ownBlock = some k → ¬ S k) : Its w' v l := row_kept h ht hs
theorem Its.upto {w w' : World} {v : Value} {l : List It} (h : Its w v l) (hb : Below w.heap.size w w') : Its w' v l := h.kept (S := NoB) (Turns.of_below hb) (fun _ _ => id)
theorem Hp.upto {w w' : World} {b : Nat} {v : Value} {n : Int} {q : Bool} (h : Hp w b v n q) (hb : Below w.heap.size w w') : Hp w' b v n q := h.kept (S := NoB) (Turns.of_below hb) id
theorem Its.form {w : World} {v : Value} {l : List It} (h : Its w v l) (hl : 0 < l.length) : ∃ g cap, v = .slice (some ⟨g, 0, none⟩) l.length cap ∧ l.length ≤ cap ∧ cap ≤ maxLen ∧ g < w.heap.size := by
  rcases h.2 with ⟨e, h0⟩ | ⟨g, cap, cur, e, hb, hg, hn, hm, hs, ht⟩
  · omega
  · exact ⟨g, cap, e, hn, hm, (Array.getElem?_eq_some_iff.1 hg).1⟩
theorem Its.slice {w : World} {v : Value} {l : List It} (h : Its w v l) : ∃ a cap, v = .slice a l.length cap ∧ l.length ≤ maxLen := by
  rcases h.2 with ⟨e, h0⟩ | ⟨g, cap, cur, e, hb, hg, hn, hm, hs, ht⟩
  · exact ⟨none, 0, by rw [h0]; exact e, by rw [h0]; decide⟩
  · exact ⟨_, cap, e, by omega⟩
/-- One item's cells. -/
def C5 (w : World) (x o : Nat) (t : It) : Prop := (w.cell? ⟨x, o, none⟩ = some (.int .i64 t.x) ∧ w.cell? ⟨x, o + 1, none⟩ = some (.int .i64 t.y) ∧ w.cell? ⟨x, o + 2, none⟩ = some (.int .i64 t.c) ∧ w.cell? ⟨x, o + 3, none⟩ = some (.int .i64 t.f) ∧ w.cell? ⟨x, o + 4, none⟩ = some (.int .i64 t.p))
theorem C5.upto {w w' : World} {x o : Nat} {t : It} (h : C5 w x o t) (hb : Below w.heap.size w w') : C5 w' x o t :=
  ⟨(hb.cell (World.block_lt_of_cell? w _ h.1)).trans h.1, (hb.cell (World.block_lt_of_cell? w _ h.2.1)).trans h.2.1, (hb.cell (World.block_lt_of_cell? w _ h.2.2.1)).trans h.2.2.1, (hb.cell (World.block_lt_of_cell? w _ h.2.2.2.1)).trans h.2.2.2.1, (hb.cell (World.block_lt_of_cell? w _ h.2.2.2.2)).trans h.2.2.2.2⟩
theorem Its.at {w : World} {g cap : Nat} {l : List It} (h : Its w (.slice (some ⟨g, 0, none⟩) l.length cap) l) {j : Nat} {s : It} (hs : l[j]? = some s) : C5 w g (j * 5) s ∧ ∀ o, w.frozen? ⟨g, o, none⟩ = false := by
  have hc : ∀ o u, s.cs[o]? = some u → o < 5 → w.cell? ⟨g, j * 5 + o, none⟩ = some u := fun o u hu ho => by
    have := World.ownsRow.cells h (g := g) rfl (j * 5 + o) u (by rw [It.cs_get l j s o hs ho]; exact hu)
    simpa [Addr.add_lit] using this
  refine ⟨⟨hc 0 _ rfl (by omega), hc 1 _ rfl (by omega), hc 2 _ rfl (by omega), hc 3 _ rfl (by omega), hc 4 _ rfl (by omega)⟩, fun o => ?_⟩
  rcases h.2 with ⟨e, _⟩ | ⟨g', cap', cur, e, hb, hg, r⟩
  · cases e
  · simp only [Value.slice.injEq, Option.some.injEq, Addr.mk.injEq, and_true, true_and] at e
    obtain ⟨rfl, -⟩ := e
    simp [World.frozen?, hg]
/-- One item written anew. -/
def put5 (w : World) (g o : Nat) (t : It) : World := ((((w.setCell ⟨g, o, none⟩ (.int .i64 t.x)).setCell ⟨g, o + 1, none⟩ (.int .i64 t.y)).setCell ⟨g, o + 2, none⟩ (.int .i64 t.c)).setCell ⟨g, o + 3, none⟩ (.int .i64 t.f)).setCell ⟨g, o + 4, none⟩ (.int .i64 t.p)
theorem Its.set {w : World} {g cap : Nat} {l : List It} (h : Its w (.slice (some ⟨g, 0, none⟩) l.length cap) l) {j : Nat} (hj : j < l.length) (t : It) : Its (put5 w g (j * 5) t) (.slice (some ⟨g, 0, none⟩) l.length cap) (l.set j t) := by
  unfold Its put5
  rw [It.cs_set t l j hj, List.length_set]
  exact (World.ownsRow.stored (World.ownsRow.stored (World.ownsRow.stored (World.ownsRow.stored (World.ownsRow.stored h (j * 5) _).1 (j * 5 + 1) _).1 (j * 5 + 2) _).1 (j * 5 + 3) _).1 (j * 5 + 4) _).1
theorem put5_turns (w : World) (g o : Nat) (t : It) : Turns (fun k => k = g) w (put5 w g o t) :=
  ((((Turns.set (S := fun j => j = g) w (p := ⟨g, o, none⟩) rfl _).trans ((Turns.set (S := fun j => j = g) _ (p := ⟨g, o + 1, none⟩) rfl _).mono (fun _ _ h => .inl h))).trans ((Turns.set (S := fun j => j = g) _ (p := ⟨g, o + 2, none⟩) rfl _).mono (fun _ _ h => .inl h))).trans ((Turns.set (S := fun j => j = g) _ (p := ⟨g, o + 3, none⟩) rfl _).mono (fun _ _ h => .inl h))).trans ((Turns.set (S := fun j => j = g) _ (p := ⟨g, o + 4, none⟩) rfl _).mono (fun _ _ h => .inl h))
/-- Which of two items is popped before the other. -/
def lt (a b : It) : Bool := if a.p < b.p then !decide (b.f < a.f) else decide (a.f < b.f)
theorem lt_iff (a b : It) : lt a b = true ↔ (a.f < b.f ∨ a.f = b.f ∧ a.p < b.p) := by
  unfold lt
  split <;> simp <;> omega
theorem run_hf1 {ev : Operand → Value} {o : Oper} {w : World} {x : Operand} {b : Nat} (ho : o.op = .fieldAddr 247 x 1) (hx : ev x = .pointer (some ⟨b, 0, none⟩)) : (execOp ev o).run Tryz.prog w = .ok (.value (.pointer (some ⟨b, 1, none⟩))) w := by
  unfold execOp; rw [ho]; simp only [hx]; go_simp
theorem run_row {ev : Operand → Value} {o : Oper} {w : World} {ad : Addr} {x : Operand} {a : Option Addr} {n c : Nat} (ho : o.op = .load 245 x) (hx : ev x = .pointer (some ad)) (hc : w.cell? ad = some (.slice a n c)) : (execOp ev o).run Tryz.prog w = .ok (.value (.slice a n c)) w := by
  unfold execOp; rw [ho]; simp only [hx]; go_simp
theorem run_iat {ev : Operand → Value} {o : Oper} {w : World} {x t : Operand} {g n cap k : Nat} (ho : o.op = .indexAddr 245 x t) (hx : ev x = .slice (some ⟨g, 0, none⟩) n cap) (ht : ev t = .int .i64 k) (hk : k < n) : (execOp ev o).run Tryz.prog w = .ok (.value (.pointer (some ⟨g, k * 5, none⟩))) w := by
  have h1 : (0 : Int) ≤ (k : Nat) ∧ (k : Int) < (n : Nat) := by omega
  unfold execOp; rw [ho]; simp only [hx, ht]; go_simp
theorem run_item {ev : Operand → Value} {o : Oper} {w : World} {x : Operand} {g k : Nat} {t : It} (ho : o.op = .load 256 x) (hx : ev x = .pointer (some ⟨g, k, none⟩)) (hc : C5 w g k t) : (execOp ev o).run Tryz.prog w = .ok (.value t.v) w := by
  obtain ⟨h0, h1, h2, h3, h4⟩ := hc
  unfold execOp; rw [ho]; simp only [hx]; go_simp
theorem run_box {ev : Operand → Value} {o : Oper} {w : World} (ho : o.op = .alloc 256) : (execOp ev o).run Tryz.prog w = .ok (.value (.pointer (some ⟨w.heap.size, 0, none⟩))) (w.alloc (.cells #[.int .i64 0, .int .i64 0, .int .i64 0, .int .i64 0, .int .i64 0] 256)) := by
  unfold execOp; rw [ho]; go_simp
theorem run_put {ev : Operand → Value} {o : Oper} {w : World} {x y : Operand} {g k : Nat} {t s : It} (ho : o.op = .store 256 x y) (hx : ev x = .pointer (some ⟨g, k, none⟩)) (hy : ev y = t.v) (hc : C5 w g k s) (hf : ∀ o, w.frozen? ⟨g, o, none⟩ = false) : (execOp ev o).run Tryz.prog w = .ok .skip (put5 w g k t) := by
  obtain ⟨h0, h1, h2, h3, h4⟩ := hc
  have f0 := hf k
  have f1 := hf (k + 1)
  have f2 := hf (k + 2)
  have f3 := hf (k + 3)
  have f4 := hf (k + 4)
  unfold put5
  unfold execOp; rw [ho]; simp only [hx, hy]; go_simp
set_option maxRecDepth 100000 in
set_option maxHeartbeats 2000000 in
theorem swap_is (b : Nat) (v : Value) (n : Int) (q : Bool) (l : List It) (i j : Nat) (s t : It) (w : World) (h : Hp w b v n q) (hv : Its w v l) (hi : l[i]? = some s) (hj : l[j]? = some t) :
    Calls Tryz.prog 212 #[ptr b, .int .i64 (i : Nat), .int .i64 (j : Nat)] w fun e w' => e = .returned (.tuple #[]) ∧ Its w' v ((l.set i t).set j s) ∧ Turns (fun k => v.ownBlock = some k) w w' := by
  have hil : i < l.length := (List.getElem?_eq_some_iff.1 hi).1
  have hjl : j < l.length := (List.getElem?_eq_some_iff.1 hj).1
  obtain ⟨g, cap, rfl, hc1, hc2, hgl⟩ := hv.form (by omega)
  obtain ⟨ci, fz⟩ := hv.at hi
  obtain ⟨cj, -⟩ := hv.at hj
  have hvd : Its w.drew (.slice (some ⟨g, 0, none⟩) l.length cap) l := hv
  have v1 := hvd.set hil t
  have c2 : ∃ u : It, C5 (put5 w.drew g (i * 5) t) g (j * 5) u := by
    have hj2 : (l.set i t)[j]? = some ((l.set i t)[j]'(by simpa using hjl)) := List.getElem?_eq_getElem _
    have v1' : Its (put5 w.drew g (i * 5) t) (.slice (some ⟨g, 0, none⟩) (l.set i t).length cap) (l.set i t) := by rw [List.length_set]; exact v1
    exact ⟨_, (v1'.at hj2).1⟩
  obtain ⟨u, c2⟩ := c2
  have fz2 : ∀ o, (put5 w.drew g (i * 5) t).frozen? ⟨g, o, none⟩ = false := by
    have hj2 : (l.set i t)[j]? = some ((l.set i t)[j]'(by simpa using hjl)) := List.getElem?_eq_getElem _
    have v1' : Its (put5 w.drew g (i * 5) t) (.slice (some ⟨g, 0, none⟩) (l.set i t).length cap) (l.set i t) := by rw [List.length_set]; exact v1
    exact (v1'.at hj2).2
  have v2 : Its (put5 (put5 w.drew g (i * 5) t) g (j * 5) s) (.slice (some ⟨g, 0, none⟩) l.length cap) ((l.set i t).set j s) := by
    have v1' : Its (put5 w.drew g (i * 5) t) (.slice (some ⟨g, 0, none⟩) (l.set i t).length cap) (l.set i t) := by rw [List.length_set]; exact v1
    have := v1'.set (j := j) (by simpa using hjl) s
    rwa [List.length_set] at this
  have T2 : Turns (fun k => Value.ownBlock (.slice (some ⟨g, 0, none⟩) l.length cap) = some k) w (put5 (put5 w.drew g (i * 5) t) g (j * 5) s) := by
    have a1 : Turns (fun k => Value.ownBlock (.slice (some ⟨g, 0, none⟩) l.length cap) = some k) w (put5 w.drew g (i * 5) t) := ((Turns.refl _ w).drew).trans ((put5_turns w.drew g (i * 5) t).mono (fun k _ e => .inl (by subst e; rfl)))
    exact a1.trans ((put5_turns _ g (j * 5) s).mono (fun k _ e => .inl (by subst e; rfl)))
  have HE := hide (And.intro v2 T2)
  have HS : (fun wx : World => wx.cell? ⟨b, 1, none⟩ = some (.slice (some ⟨g, 0, none⟩) l.length cap) ∧ C5 wx g (i * 5) s ∧ C5 wx g (j * 5) t) w.drew := ⟨h.c 1, ci, cj⟩
  clear v1 v2 T2 hvd
  go_enter Tryz.func212, Tryz.ntmps212
  go_wp2_with fail
  refine wp_region_z (fun wx : World => wx.cell? ⟨b, 1, none⟩ = some (.slice (some ⟨g, 0, none⟩) l.length cap) ∧ C5 wx g (i * 5) s ∧ C5 wx g (j * 5) t) [9, 25, 26, 27] (by kernel_rfl) ?_
  refine anyZ_copy 9 (v := .int .i64 (j : Nat)) rfl (by decide) (by kernel_rfl) (fun _ _ _ h => h) (Or.inl ⟨by rfl, fun wx hx => run_mv (by rfl) (by rfl)⟩) ?_
  try simp only [Act.put, List.getElem_toArray, List.getElem_cons_zero, List.getElem_cons_succ, List.setIfInBounds_toArray, List.set_cons_zero, List.set_cons_succ]
  refine anyZ_take 0 8 (v := ptr b) rfl (by kernel_rfl) (fun _ _ _ h => h) (Or.inl ⟨by rfl, fun wx hx => run_mv (by rfl) (by rfl)⟩) HS ?_
  try simp only [Act.put, List.getElem_toArray, List.getElem_cons_zero, List.getElem_cons_succ, List.setIfInBounds_toArray, List.set_cons_zero, List.set_cons_succ]
  refine anyZ_take 1 8 (v := ptr b) rfl (by kernel_rfl) (fun _ _ _ h => h) (Or.inl ⟨by rfl, fun wx hx => run_nc (by rfl) (by rfl)⟩) HS ?_
  try simp only [Act.put, List.getElem_toArray, List.getElem_cons_zero, List.getElem_cons_succ, List.setIfInBounds_toArray, List.set_cons_zero, List.set_cons_succ]
  refine anyZ_take 2 8 (v := .pointer (some ⟨b, 1, none⟩)) rfl (by kernel_rfl) (fun _ _ _ h => h) (Or.inl ⟨by rfl, fun wx hx => run_hf1 (by rfl) (by rfl)⟩) HS ?_
  try simp only [Act.put, List.getElem_toArray, List.getElem_cons_zero, List.getElem_cons_succ, List.setIfInBounds_toArray, List.set_cons_zero, List.set_cons_succ]
  refine anyZ_take 3 8 (v := .slice (some ⟨g, 0, none⟩) l.length cap) rfl (by kernel_rfl) (fun _ _ _ h => h) (Or.inl ⟨by rfl, fun wx hx => run_row (by rfl) (by rfl) hx.1⟩) HS ?_
  try simp only [Act.put, List.getElem_toArray, List.getElem_cons_zero, List.getElem_cons_succ, List.setIfInBounds_toArray, List.set_cons_zero, List.set_cons_succ]
  refine anyZ_take 4 8 (v := .int .i64 (i : Nat)) rfl (by kernel_rfl) (fun _ _ _ h => h) (Or.inl ⟨by rfl, fun wx hx => run_mv (by rfl) (by rfl)⟩) HS ?_
  try simp only [Act.put, List.getElem_toArray, List.getElem_cons_zero, List.getElem_cons_succ, List.setIfInBounds_toArray, List.set_cons_zero, List.set_cons_succ]
  refine anyZ_take 5 8 (v := ptr b) rfl (by kernel_rfl) (fun _ _ _ h => h) (Or.inl ⟨by rfl, fun wx hx => run_mv (by rfl) (by rfl)⟩) HS ?_
  try simp only [Act.put, List.getElem_toArray, List.getElem_cons_zero, List.getElem_cons_succ, List.setIfInBounds_toArray, List.set_cons_zero, List.set_cons_succ]
  refine anyZ_take 6 8 (v := ptr b) rfl (by kernel_rfl) (fun _ _ _ h => h) (Or.inl ⟨by rfl, fun wx hx => run_nc (by rfl) (by rfl)⟩) HS ?_
  try simp only [Act.put, List.getElem_toArray, List.getElem_cons_zero, List.getElem_cons_succ, List.setIfInBounds_toArray, List.set_cons_zero, List.set_cons_succ]
  refine anyZ_take 7 8 (v := .pointer (some ⟨b, 1, none⟩)) rfl (by kernel_rfl) (fun _ _ _ h => h) (Or.inl ⟨by rfl, fun wx hx => run_hf1 (by rfl) (by rfl)⟩) HS ?_
  try simp only [Act.put, List.getElem_toArray, List.getElem_cons_zero, List.getElem_cons_succ, List.setIfInBounds_toArray, List.set_cons_zero, List.set_cons_succ]
  refine anyZ_take 8 8 (v := .slice (some ⟨g, 0, none⟩) l.length cap) rfl (by kernel_rfl) (fun _ _ _ h => h) (Or.inl ⟨by rfl, fun wx hx => run_row (by rfl) (by rfl) hx.1⟩) HS ?_
  try simp only [Act.put, List.getElem_toArray, List.getElem_cons_zero, List.getElem_cons_succ, List.setIfInBounds_toArray, List.set_cons_zero, List.set_cons_succ]
  refine anyZ_take 10 8 (v := ptr b) rfl (by kernel_rfl) (fun _ _ _ h => h) (Or.inl ⟨by rfl, fun wx hx => run_mv (by rfl) (by rfl)⟩) HS ?_
  try simp only [Act.put, List.getElem_toArray, List.getElem_cons_zero, List.getElem_cons_succ, List.setIfInBounds_toArray, List.set_cons_zero, List.set_cons_succ]
  refine anyZ_take 11 8 (v := ptr b) rfl (by kernel_rfl) (fun _ _ _ h => h) (Or.inl ⟨by rfl, fun wx hx => run_nc (by rfl) (by rfl)⟩) HS ?_
  try simp only [Act.put, List.getElem_toArray, List.getElem_cons_zero, List.getElem_cons_succ, List.setIfInBounds_toArray, List.set_cons_zero, List.set_cons_succ]
  refine anyZ_take 12 8 (v := .pointer (some ⟨b, 1, none⟩)) rfl (by kernel_rfl) (fun _ _ _ h => h) (Or.inl ⟨by rfl, fun wx hx => run_hf1 (by rfl) (by rfl)⟩) HS ?_
  try simp only [Act.put, List.getElem_toArray, List.getElem_cons_zero, List.getElem_cons_succ, List.setIfInBounds_toArray, List.set_cons_zero, List.set_cons_succ]
  refine anyZ_take 13 8 (v := .slice (some ⟨g, 0, none⟩) l.length cap) rfl (by kernel_rfl) (fun _ _ _ h => h) (Or.inl ⟨by rfl, fun wx hx => run_row (by rfl) (by rfl) hx.1⟩) HS ?_
  try simp only [Act.put, List.getElem_toArray, List.getElem_cons_zero, List.getElem_cons_succ, List.setIfInBounds_toArray, List.set_cons_zero, List.set_cons_succ]
  refine anyZ_take 14 8 (v := .int .i64 (j : Nat)) rfl (by kernel_rfl) (fun _ _ _ h => h) (Or.inl ⟨by rfl, fun wx hx => run_mv (by rfl) (by rfl)⟩) HS ?_
  try simp only [Act.put, List.getElem_toArray, List.getElem_cons_zero, List.getElem_cons_succ, List.setIfInBounds_toArray, List.set_cons_zero, List.set_cons_succ]
  refine anyZ_take 15 8 (v := .pointer (some ⟨g, j * 5, none⟩)) rfl (by kernel_rfl) (fun _ _ _ h => h) (Or.inl ⟨by rfl, fun wx hx => run_iat (by rfl) (by rfl) (by rfl) hjl⟩) HS ?_
  try simp only [Act.put, List.getElem_toArray, List.getElem_cons_zero, List.getElem_cons_succ, List.setIfInBounds_toArray, List.set_cons_zero, List.set_cons_succ]
  refine anyZ_take 16 8 (v := t.v) rfl (by kernel_rfl) (fun _ _ _ h => h) (Or.inl ⟨by rfl, fun wx hx => run_item (by rfl) (by rfl) hx.2.2⟩) HS ?_
  try simp only [Act.put, List.getElem_toArray, List.getElem_cons_zero, List.getElem_cons_succ, List.setIfInBounds_toArray, List.set_cons_zero, List.set_cons_succ]
  refine anyZ_take 17 8 (v := ptr b) rfl (by kernel_rfl) (fun _ _ _ h => h) (Or.inl ⟨by rfl, fun wx hx => run_mv (by rfl) (by rfl)⟩) HS ?_
  try simp only [Act.put, List.getElem_toArray, List.getElem_cons_zero, List.getElem_cons_succ, List.setIfInBounds_toArray, List.set_cons_zero, List.set_cons_succ]
  refine anyZ_take 18 8 (v := ptr b) rfl (by kernel_rfl) (fun _ _ _ h => h) (Or.inl ⟨by rfl, fun wx hx => run_nc (by rfl) (by rfl)⟩) HS ?_
  try simp only [Act.put, List.getElem_toArray, List.getElem_cons_zero, List.getElem_cons_succ, List.setIfInBounds_toArray, List.set_cons_zero, List.set_cons_succ]
  refine anyZ_take 19 8 (v := .pointer (some ⟨b, 1, none⟩)) rfl (by kernel_rfl) (fun _ _ _ h => h) (Or.inl ⟨by rfl, fun wx hx => run_hf1 (by rfl) (by rfl)⟩) HS ?_
  try simp only [Act.put, List.getElem_toArray, List.getElem_cons_zero, List.getElem_cons_succ, List.setIfInBounds_toArray, List.set_cons_zero, List.set_cons_succ]
  refine anyZ_take 20 8 (v := .slice (some ⟨g, 0, none⟩) l.length cap) rfl (by kernel_rfl) (fun _ _ _ h => h) (Or.inl ⟨by rfl, fun wx hx => run_row (by rfl) (by rfl) hx.1⟩) HS ?_
  try simp only [Act.put, List.getElem_toArray, List.getElem_cons_zero, List.getElem_cons_succ, List.setIfInBounds_toArray, List.set_cons_zero, List.set_cons_succ]
  refine anyZ_take 21 8 (v := .int .i64 (i : Nat)) rfl (by kernel_rfl) (fun _ _ _ h => h) (Or.inl ⟨by rfl, fun wx hx => run_mv (by rfl) (by rfl)⟩) HS ?_
  try simp only [Act.put, List.getElem_toArray, List.getElem_cons_zero, List.getElem_cons_succ, List.setIfInBounds_toArray, List.set_cons_zero, List.set_cons_succ]
  refine anyZ_take 22 8 (v := .pointer (some ⟨g, i * 5, none⟩)) rfl (by kernel_rfl) (fun _ _ _ h => h) (Or.inl ⟨by rfl, fun wx hx => run_iat (by rfl) (by rfl) (by rfl) hil⟩) HS ?_
  try simp only [Act.put, List.getElem_toArray, List.getElem_cons_zero, List.getElem_cons_succ, List.setIfInBounds_toArray, List.set_cons_zero, List.set_cons_succ]
  refine anyZ_take 23 8 (v := s.v) rfl (by kernel_rfl) (fun _ _ _ h => h) (Or.inl ⟨by rfl, fun wx hx => run_item (by rfl) (by rfl) hx.2.1⟩) HS ?_
  try simp only [Act.put, List.getElem_toArray, List.getElem_cons_zero, List.getElem_cons_succ, List.setIfInBounds_toArray, List.set_cons_zero, List.set_cons_succ]
  refine anyZ_take 24 8 (v := .pointer (some ⟨g, i * 5, none⟩)) rfl (by kernel_rfl) (fun _ _ _ h => h) (Or.inl ⟨by rfl, fun wx hx => run_iat (by rfl) (by rfl) (by rfl) hil⟩) HS ?_
  try simp only [Act.put, List.getElem_toArray, List.getElem_cons_zero, List.getElem_cons_succ, List.setIfInBounds_toArray, List.set_cons_zero, List.set_cons_succ]
  refine anyZ_ready (rs := [25]) (by kernel_rfl) (by simp) ?_
  refine readyZ.skip rfl rfl (run_put (by rfl) (by rfl) (by rfl) ci fz) (fun h => absurd (by decide) h) ?_ readyZ.nil
  try simp only [Act.put, List.getElem_toArray, List.getElem_cons_zero, List.getElem_cons_succ, List.setIfInBounds_toArray, List.set_cons_zero, List.set_cons_succ]
  refine anyZ_ready (rs := [26]) (by kernel_rfl) (by simp) ?_
  refine readyZ.cons rfl rfl (run_iat (k := j) (by rfl) (by rfl) (by rfl) hjl) (fun h => absurd (by decide) h) ?_ readyZ.nil
  try simp only [Act.put, List.getElem_toArray, List.getElem_cons_zero, List.getElem_cons_succ, List.setIfInBounds_toArray, List.set_cons_zero, List.set_cons_succ]
  refine anyZ_ready (rs := [27]) (by kernel_rfl) (by simp) ?_
  refine readyZ.skip rfl rfl (run_put (by rfl) (by rfl) (by rfl) c2 fz2) (fun h => absurd (by decide) h) ?_ readyZ.nil
  try simp only [Act.put, List.getElem_toArray, List.getElem_cons_zero, List.getElem_cons_succ, List.setIfInBounds_toArray, List.set_cons_zero, List.set_cons_succ]
  refine anyZ_done (by kernel_rfl) ?_ _
  go_wp2_with fail
  go_end0
  exact ⟨rfl, HE.out⟩
end Go.Proofs.YthiafmlgialbnaaGreatDoor
namespace Go.Proofs.YthiafmlgialbnaaGreatDoor
open Go.RowKit
set_option linter.unusedVariables false
set_option linter.unusedSimpArgs false
/-- A box with one item. -/
def Bx (w : World) (x : Nat) (t : It) : Prop := w.heap[x]? = some (.cells #[.int .i64 t.x, .int .i64 t.y, .int .i64 t.c, .int .i64 t.f, .int .i64 t.p] 256 (0, 0))
theorem Bx.upto {w w' : World} {x : Nat} {t : It} (h : Bx w x t) (hb : Below w.heap.size w w') : Bx w' x t := (hb.block x (Array.getElem?_eq_some_iff.1 h).1).trans h
theorem Bx.c5 {w : World} {x : Nat} {t : It} (h : Bx w x t) : C5 w x 0 t := ⟨cell_of_row w x 0 _ _ _ h, cell_of_row w x 1 _ _ _ h, cell_of_row w x 2 _ _ _ h, cell_of_row w x 3 _ _ _ h, cell_of_row w x 4 _ _ _ h⟩
theorem Bx.thaw {w : World} {x : Nat} {t : It} (h : Bx w x t) (o : Nat) : w.frozen? ⟨x, o, none⟩ = false := by
  have h' : w.heap[x]? = _ := h
  simp [World.frozen?, h']
theorem Bx.put {w : World} {x : Nat} {s t : It} (h : Bx w x s) : Bx (put5 w x 0 t) x t := by
  have h' : w.heap[x]? = _ := h
  have hlt := (Array.getElem?_eq_some_iff.1 h').1
  unfold Bx put5
  simp [World.setCell, Array.getElem?_modify, h']
theorem Bx.turned {S : Nat → Prop} {w w' : World} {x : Nat} {t : It} (h : Bx w x t) (ht : Turns S w w') (hs : ¬ S x) : Bx w' x t := ht.same hs h
def zit : It := ⟨0, 0, 0, 0, 0⟩
theorem mkU (T : Array Value) (D : List Deferred) (F : (Nat → Value) → Act) (h : ({ tmps := T, defers := D } : Act) = F (fun n => T.getD n undef)) : ∃ u : Nat → Value, ({ tmps := T, defers := D } : Act) = F u := ⟨_, h⟩
set_option maxRecDepth 100000 in
set_option maxHeartbeats 2000000 in
theorem before_is (b : Nat) (v : Value) (n : Int) (l : List It) (i j : Nat) (s t : It) (w : World) (h : Hp w b v n false) (hv : Its w v l) (hi : l[i]? = some s) (hj : l[j]? = some t) :
    Calls Tryz.prog 211 #[ptr b, .int .i64 (i : Nat), .int .i64 (j : Nat)] w fun e w' => e = .returned (.bool (lt s t)) ∧ Below w.heap.size w w' := by
  have hil : i < l.length := (List.getElem?_eq_some_iff.1 hi).1
  have hjl : j < l.length := (List.getElem?_eq_some_iff.1 hj).1
  obtain ⟨g, cap, rfl, hc1, hc2, hgl⟩ := hv.form (by omega)
  obtain ⟨ci, fz⟩ := hv.at hi
  obtain ⟨cj, -⟩ := hv.at hj
  have hbl := h.lt
  have hS : ∀ wx, Below w.heap.size w wx → (fun wx : World => wx.cell? ⟨b, 1, none⟩ = some (.slice (some ⟨g, 0, none⟩) l.length cap) ∧ C5 wx g (i * 5) s ∧ C5 wx g (j * 5) t) wx := fun wx hx => ⟨(h.upto hx).c 1, ci.upto hx, cj.upto hx⟩
  have HS := hide hS
  have HH := hide h
  have HB0 : Hid (Below w.heap.size w w.drew) := hide (Below.refl _ _).drew
  clear hS h hv
  go_enter Tryz.func211, Tryz.ntmps211
  go_wp2_with fail
  refine Code.wp_mono (Q := Only (fun a' Y => ∃ p7 p8 : Nat, (Bx Y p7 s ∧ Bx Y p8 t) ∧ Below w.heap.size w Y ∧ ∃ u : Nat → Value, a' = { tmps := #[ptr b, .int .i64 (i : Nat), .int .i64 (j : Nat), undef, undef, undef, .bool false, ptr p7, ptr p8, u 9, u 10, u 11, u 12, u 13, u 14, u 15, u 16, u 17, u 18, u 19, u 20, u 21, u 22, undef, undef, undef, undef, undef, undef, undef, undef, undef, undef, undef, undef, undef, undef, undef, undef, undef, undef], defers := [] })) ?rest ?_
  case rest =>
    rintro (_ | _ | _ | _ | _) a' Y hO
    all_goals first | exact hO.elim | skip
    obtain ⟨p7, p8, ⟨bs, bt'⟩, hB, u, rfl⟩ := hO
    have cs := bs.c5
    have ct := bt'.c5
    simp only [C5, Nat.zero_add] at cs ct
    obtain ⟨s0, s1, s2, s3, s4⟩ := cs
    obtain ⟨t0, t1, t2, t3, t4⟩ := ct
    have hY := HH.out.upto hB
    have HB := hide hB
    by_cases hp : s.p < t.p
    · have hp1 : decide (s.p < t.p) = true := by simpa using hp
      have HA := hide (ahead_is b _ n t.x t.y t.c t.f s.x s.y s.c s.f Y hY)
      clear hB hY
      go_wp2_with fail
      refine HA.out.mono ?_
      rintro e Y2 ⟨rfl, hb2⟩
      have HB2 := hide (bt HB.out hb2)
      clear hb2
      go_wp2_with fail
      go_ret
      exact ⟨ret_bool (by rw [lt, if_pos hp]), HB2.out⟩
    · have hp1 : decide (s.p < t.p) = false := by simpa using hp
      have HA := hide (ahead_is b _ n s.x s.y s.c s.f t.x t.y t.c t.f Y hY)
      clear hB hY
      go_wp2_with fail
      refine HA.out.mono ?_
      rintro e Y2 ⟨rfl, hb2⟩
      have HB2 := hide (bt HB.out hb2)
      clear hb2
      go_wp2_with fail
      go_ret
      exact ⟨ret_bool (by rw [lt, if_neg (by omega)]), HB2.out⟩
  refine wp_region_z (fun wx : World => wx.cell? ⟨b, 1, none⟩ = some (.slice (some ⟨g, 0, none⟩) l.length cap) ∧ C5 wx g (i * 5) s ∧ C5 wx g (j * 5) t) [17] (by kernel_rfl) ?_
  refine anyZ_take 0 8 (v := ptr b) rfl (by kernel_rfl) (fun _ _ _ h => h.elim) (Or.inl ⟨by rfl, fun wx hx => run_mv (by rfl) (by rfl)⟩) (HS.out _ HB0.out) ?_
  try simp only [Act.put, List.getElem_toArray, List.getElem_cons_zero, List.getElem_cons_succ, List.setIfInBounds_toArray, List.set_cons_zero, List.set_cons_succ]
  refine anyZ_take 1 8 (v := ptr b) rfl (by kernel_rfl) (fun _ _ _ h => h.elim) (Or.inl ⟨by rfl, fun wx hx => run_nc (by rfl) (by rfl)⟩) (HS.out _ HB0.out) ?_
  try simp only [Act.put, List.getElem_toArray, List.getElem_cons_zero, List.getElem_cons_succ, List.setIfInBounds_toArray, List.set_cons_zero, List.set_cons_succ]
  refine anyZ_take 2 8 (v := .pointer (some ⟨b, 1, none⟩)) rfl (by kernel_rfl) (fun _ _ _ h => h.elim) (Or.inl ⟨by rfl, fun wx hx => run_hf1 (by rfl) (by rfl)⟩) (HS.out _ HB0.out) ?_
  try simp only [Act.put, List.getElem_toArray, List.getElem_cons_zero, List.getElem_cons_succ, List.setIfInBounds_toArray, List.set_cons_zero, List.set_cons_succ]
  refine anyZ_take 3 8 (v := .slice (some ⟨g, 0, none⟩) l.length cap) rfl (by kernel_rfl) (fun _ _ _ h => h.elim) (Or.inl ⟨by rfl, fun wx hx => run_row (by rfl) (by rfl) hx.1⟩) (HS.out _ HB0.out) ?_
  try simp only [Act.put, List.getElem_toArray, List.getElem_cons_zero, List.getElem_cons_succ, List.setIfInBounds_toArray, List.set_cons_zero, List.set_cons_succ]
  refine anyZ_take 4 8 (v := .int .i64 (i : Nat)) rfl (by kernel_rfl) (fun _ _ _ h => h.elim) (Or.inl ⟨by rfl, fun wx hx => run_mv (by rfl) (by rfl)⟩) (HS.out _ HB0.out) ?_
  try simp only [Act.put, List.getElem_toArray, List.getElem_cons_zero, List.getElem_cons_succ, List.setIfInBounds_toArray, List.set_cons_zero, List.set_cons_succ]
  refine anyZ_take 5 8 (v := .pointer (some ⟨g, i * 5, none⟩)) rfl (by kernel_rfl) (fun _ _ _ h => h.elim) (Or.inl ⟨by rfl, fun wx hx => run_iat (by rfl) (by rfl) (by rfl) hil⟩) (HS.out _ HB0.out) ?_
  try simp only [Act.put, List.getElem_toArray, List.getElem_cons_zero, List.getElem_cons_succ, List.setIfInBounds_toArray, List.set_cons_zero, List.set_cons_succ]
  refine anyZ_take 6 8 (v := s.v) rfl (by kernel_rfl) (fun _ _ _ h => h.elim) (Or.inl ⟨by rfl, fun wx hx => run_item (by rfl) (by rfl) hx.2.1⟩) (HS.out _ HB0.out) ?_
  try simp only [Act.put, List.getElem_toArray, List.getElem_cons_zero, List.getElem_cons_succ, List.setIfInBounds_toArray, List.set_cons_zero, List.set_cons_succ]
  refine anyZ_take 7 8 (v := ptr b) rfl (by kernel_rfl) (fun _ _ _ h => h.elim) (Or.inl ⟨by rfl, fun wx hx => run_mv (by rfl) (by rfl)⟩) (HS.out _ HB0.out) ?_
  try simp only [Act.put, List.getElem_toArray, List.getElem_cons_zero, List.getElem_cons_succ, List.setIfInBounds_toArray, List.set_cons_zero, List.set_cons_succ]
  refine anyZ_take 8 8 (v := ptr b) rfl (by kernel_rfl) (fun _ _ _ h => h.elim) (Or.inl ⟨by rfl, fun wx hx => run_nc (by rfl) (by rfl)⟩) (HS.out _ HB0.out) ?_
  try simp only [Act.put, List.getElem_toArray, List.getElem_cons_zero, List.getElem_cons_succ, List.setIfInBounds_toArray, List.set_cons_zero, List.set_cons_succ]
  refine anyZ_take 9 8 (v := .pointer (some ⟨b, 1, none⟩)) rfl (by kernel_rfl) (fun _ _ _ h => h.elim) (Or.inl ⟨by rfl, fun wx hx => run_hf1 (by rfl) (by rfl)⟩) (HS.out _ HB0.out) ?_
  try simp only [Act.put, List.getElem_toArray, List.getElem_cons_zero, List.getElem_cons_succ, List.setIfInBounds_toArray, List.set_cons_zero, List.set_cons_succ]
  refine anyZ_take 10 8 (v := .slice (some ⟨g, 0, none⟩) l.length cap) rfl (by kernel_rfl) (fun _ _ _ h => h.elim) (Or.inl ⟨by rfl, fun wx hx => run_row (by rfl) (by rfl) hx.1⟩) (HS.out _ HB0.out) ?_
  try simp only [Act.put, List.getElem_toArray, List.getElem_cons_zero, List.getElem_cons_succ, List.setIfInBounds_toArray, List.set_cons_zero, List.set_cons_succ]
  refine anyZ_take 11 8 (v := .int .i64 (j : Nat)) rfl (by kernel_rfl) (fun _ _ _ h => h.elim) (Or.inl ⟨by rfl, fun wx hx => run_mv (by rfl) (by rfl)⟩) (HS.out _ HB0.out) ?_
  try simp only [Act.put, List.getElem_toArray, List.getElem_cons_zero, List.getElem_cons_succ, List.setIfInBounds_toArray, List.set_cons_zero, List.set_cons_succ]
  refine anyZ_take 12 8 (v := .pointer (some ⟨g, j * 5, none⟩)) rfl (by kernel_rfl) (fun _ _ _ h => h.elim) (Or.inl ⟨by rfl, fun wx hx => run_iat (by rfl) (by rfl) (by rfl) hjl⟩) (HS.out _ HB0.out) ?_
  try simp only [Act.put, List.getElem_toArray, List.getElem_cons_zero, List.getElem_cons_succ, List.setIfInBounds_toArray, List.set_cons_zero, List.set_cons_succ]
  refine anyZ_take 13 8 (v := t.v) rfl (by kernel_rfl) (fun _ _ _ h => h.elim) (Or.inl ⟨by rfl, fun wx hx => run_item (by rfl) (by rfl) hx.2.2⟩) (HS.out _ HB0.out) ?_
  try simp only [Act.put, List.getElem_toArray, List.getElem_cons_zero, List.getElem_cons_succ, List.setIfInBounds_toArray, List.set_cons_zero, List.set_cons_succ]
  have b14 : Below w.heap.size w (w.drew.alloc (.cells #[.int .i64 0, .int .i64 0, .int .i64 0, .int .i64 0, .int .i64 0] 256)) := bt HB0.out (box1 _ _)
  have x14 : Bx (w.drew.alloc (.cells #[.int .i64 0, .int .i64 0, .int .i64 0, .int .i64 0, .int .i64 0] 256)) w.drew.heap.size zit := heap_alloc_new _ _
  have b145 : Below w.heap.size w ((w.drew.alloc (.cells #[.int .i64 0, .int .i64 0, .int .i64 0, .int .i64 0, .int .i64 0] 256)).alloc (.cells #[.int .i64 0, .int .i64 0, .int .i64 0, .int .i64 0, .int .i64 0] 256)) := bt b14 (box1 _ _)
  have x145 : Bx ((w.drew.alloc (.cells #[.int .i64 0, .int .i64 0, .int .i64 0, .int .i64 0, .int .i64 0] 256)).alloc (.cells #[.int .i64 0, .int .i64 0, .int .i64 0, .int .i64 0, .int .i64 0] 256)) (w.drew.alloc (.cells #[.int .i64 0, .int .i64 0, .int .i64 0, .int .i64 0, .int .i64 0] 256)).heap.size zit := heap_alloc_new _ _
  have x14' := x14.upto (box1 (w.drew.alloc (.cells #[.int .i64 0, .int .i64 0, .int .i64 0, .int .i64 0, .int .i64 0] 256)) (.cells #[.int .i64 0, .int .i64 0, .int .i64 0, .int .i64 0, .int .i64 0] 256))
  have hne : (w.drew.alloc (.cells #[.int .i64 0, .int .i64 0, .int .i64 0, .int .i64 0, .int .i64 0] 256)).heap.size = w.heap.size + 1 := by simp
  have hne0 : w.drew.heap.size = w.heap.size := rfl
  refine anyZ_ready (rs := [14, 15]) (by kernel_rfl) (by simp) ?_
  refine readyZ.cons rfl rfl (run_box (by rfl)) (fun _ => HS.out _ b14) ?_ ?_
  · try simp only [Act.put, List.getElem_toArray, List.getElem_cons_zero, List.getElem_cons_succ, List.setIfInBounds_toArray, List.set_cons_zero, List.set_cons_succ]
    refine anyZ_ready (rs := [15]) (by kernel_rfl) (by simp) ?_
    refine readyZ.cons rfl rfl (run_box (by rfl)) (fun _ => HS.out _ b145) ?_ readyZ.nil
    try simp only [Act.put, List.getElem_toArray, List.getElem_cons_zero, List.getElem_cons_succ, List.setIfInBounds_toArray, List.set_cons_zero, List.set_cons_succ]
    have T6 := put5_turns ((w.drew.alloc (.cells #[.int .i64 0, .int .i64 0, .int .i64 0, .int .i64 0, .int .i64 0] 256)).alloc (.cells #[.int .i64 0, .int .i64 0, .int .i64 0, .int .i64 0, .int .i64 0] 256)) w.drew.heap.size 0 s
    have y7 : Bx (put5 ((w.drew.alloc (.cells #[.int .i64 0, .int .i64 0, .int .i64 0, .int .i64 0, .int .i64 0] 256)).alloc (.cells #[.int .i64 0, .int .i64 0, .int .i64 0, .int .i64 0, .int .i64 0] 256)) w.drew.heap.size 0 s) w.drew.heap.size s := x14'.put
    have y8 := x145.turned T6 (by omega)
    have B6 : Below w.heap.size w (put5 ((w.drew.alloc (.cells #[.int .i64 0, .int .i64 0, .int .i64 0, .int .i64 0, .int .i64 0] 256)).alloc (.cells #[.int .i64 0, .int .i64 0, .int .i64 0, .int .i64 0, .int .i64 0] 256)) w.drew.heap.size 0 s) := b145.trans (T6.below (fun k e => by omega) b145.size)
    have T7 := put5_turns (put5 ((w.drew.alloc (.cells #[.int .i64 0, .int .i64 0, .int .i64 0, .int .i64 0, .int .i64 0] 256)).alloc (.cells #[.int .i64 0, .int .i64 0, .int .i64 0, .int .i64 0, .int .i64 0] 256)) w.drew.heap.size 0 s) (w.drew.alloc (.cells #[.int .i64 0, .int .i64 0, .int .i64 0, .int .i64 0, .int .i64 0] 256)).heap.size 0 t
    have z8 : Bx (put5 (put5 ((w.drew.alloc (.cells #[.int .i64 0, .int .i64 0, .int .i64 0, .int .i64 0, .int .i64 0] 256)).alloc (.cells #[.int .i64 0, .int .i64 0, .int .i64 0, .int .i64 0, .int .i64 0] 256)) w.drew.heap.size 0 s) (w.drew.alloc (.cells #[.int .i64 0, .int .i64 0, .int .i64 0, .int .i64 0, .int .i64 0] 256)).heap.size 0 t) (w.drew.alloc (.cells #[.int .i64 0, .int .i64 0, .int .i64 0, .int .i64 0, .int .i64 0] 256)).heap.size t := y8.put
    have z7 := y7.turned T7 (by omega)
    have B7 : Below w.heap.size w (put5 (put5 ((w.drew.alloc (.cells #[.int .i64 0, .int .i64 0, .int .i64 0, .int .i64 0, .int .i64 0] 256)).alloc (.cells #[.int .i64 0, .int .i64 0, .int .i64 0, .int .i64 0, .int .i64 0] 256)) w.drew.heap.size 0 s) (w.drew.alloc (.cells #[.int .i64 0, .int .i64 0, .int .i64 0, .int .i64 0, .int .i64 0] 256)).heap.size 0 t) := B6.trans (T7.below (fun k e => by omega) B6.size)
    refine anyZ_ready (rs := [16]) (by kernel_rfl) (by simp) ?_
    refine readyZ.skip rfl rfl (run_put (by rfl) (by rfl) (by rfl) x14'.c5 x14'.thaw) (fun _ => HS.out _ B6) ?_ readyZ.nil
    try simp only [Act.put, List.getElem_toArray, List.getElem_cons_zero, List.getElem_cons_succ, List.setIfInBounds_toArray, List.set_cons_zero, List.set_cons_succ]
    refine anyZ_ready (rs := [17]) (by kernel_rfl) (by simp) ?_
    refine readyZ.skip rfl rfl (run_put (by rfl) (by rfl) (by rfl) y8.c5 y8.thaw) (fun h => absurd (by decide) h) ?_ readyZ.nil
    try simp only [Act.put, List.getElem_toArray, List.getElem_cons_zero, List.getElem_cons_succ, List.setIfInBounds_toArray, List.set_cons_zero, List.set_cons_succ]
    exact anyZ_done (by kernel_rfl) ⟨_, _, ⟨z7, z8⟩, B7, mkU _ _ _ rfl⟩ _
  · refine readyZ.cons rfl rfl (run_box (by rfl)) (fun _ => HS.out _ b14) ?_ readyZ.nil
    try simp only [Act.put, List.getElem_toArray, List.getElem_cons_zero, List.getElem_cons_succ, List.setIfInBounds_toArray, List.set_cons_zero, List.set_cons_succ]
    refine anyZ_ready (rs := [14]) (by kernel_rfl) (by simp) ?_
    refine readyZ.cons rfl rfl (run_box (by rfl)) (fun _ => HS.out _ b145) ?_ readyZ.nil
    try simp only [Act.put, List.getElem_toArray, List.getElem_cons_zero, List.getElem_cons_succ, List.setIfInBounds_toArray, List.set_cons_zero, List.set_cons_succ]
    have T6 := put5_turns ((w.drew.alloc (.cells #[.int .i64 0, .int .i64 0, .int .i64 0, .int .i64 0, .int .i64 0] 256)).alloc (.cells #[.int .i64 0, .int .i64 0, .int .i64 0, .int .i64 0, .int .i64 0] 256)) (w.drew.alloc (.cells #[.int .i64 0, .int .i64 0, .int .i64 0, .int .i64 0, .int .i64 0] 256)).heap.size 0 s
    have y7 : Bx (put5 ((w.drew.alloc (.cells #[.int .i64 0, .int .i64 0, .int .i64 0, .int .i64 0, .int .i64 0] 256)).alloc (.cells #[.int .i64 0, .int .i64 0, .int .i64 0, .int .i64 0, .int .i64 0] 256)) (w.drew.alloc (.cells #[.int .i64 0, .int .i64 0, .int .i64 0, .int .i64 0, .int .i64 0] 256)).heap.size 0 s) (w.drew.alloc (.cells #[.int .i64 0, .int .i64 0, .int .i64 0, .int .i64 0, .int .i64 0] 256)).heap.size s := x145.put
    have y8 := x14'.turned T6 (by omega)
    have B6 : Below w.heap.size w (put5 ((w.drew.alloc (.cells #[.int .i64 0, .int .i64 0, .int .i64 0, .int .i64 0, .int .i64 0] 256)).alloc (.cells #[.int .i64 0, .int .i64 0, .int .i64 0, .int .i64 0, .int .i64 0] 256)) (w.drew.alloc (.cells #[.int .i64 0, .int .i64 0, .int .i64 0, .int .i64 0, .int .i64 0] 256)).heap.size 0 s) := b145.trans (T6.below (fun k e => by omega) b145.size)
    have T7 := put5_turns (put5 ((w.drew.alloc (.cells #[.int .i64 0, .int .i64 0, .int .i64 0, .int .i64 0, .int .i64 0] 256)).alloc (.cells #[.int .i64 0, .int .i64 0, .int .i64 0, .int .i64 0, .int .i64 0] 256)) (w.drew.alloc (.cells #[.int .i64 0, .int .i64 0, .int .i64 0, .int .i64 0, .int .i64 0] 256)).heap.size 0 s) w.drew.heap.size 0 t
    have z8 : Bx (put5 (put5 ((w.drew.alloc (.cells #[.int .i64 0, .int .i64 0, .int .i64 0, .int .i64 0, .int .i64 0] 256)).alloc (.cells #[.int .i64 0, .int .i64 0, .int .i64 0, .int .i64 0, .int .i64 0] 256)) (w.drew.alloc (.cells #[.int .i64 0, .int .i64 0, .int .i64 0, .int .i64 0, .int .i64 0] 256)).heap.size 0 s) w.drew.heap.size 0 t) w.drew.heap.size t := y8.put
    have z7 := y7.turned T7 (by omega)
    have B7 : Below w.heap.size w (put5 (put5 ((w.drew.alloc (.cells #[.int .i64 0, .int .i64 0, .int .i64 0, .int .i64 0, .int .i64 0] 256)).alloc (.cells #[.int .i64 0, .int .i64 0, .int .i64 0, .int .i64 0, .int .i64 0] 256)) (w.drew.alloc (.cells #[.int .i64 0, .int .i64 0, .int .i64 0, .int .i64 0, .int .i64 0] 256)).heap.size 0 s) w.drew.heap.size 0 t) := B6.trans (T7.below (fun k e => by omega) B6.size)
    refine anyZ_ready (rs := [16]) (by kernel_rfl) (by simp) ?_
    refine readyZ.skip rfl rfl (run_put (by rfl) (by rfl) (by rfl) x145.c5 x145.thaw) (fun _ => HS.out _ B6) ?_ readyZ.nil
    try simp only [Act.put, List.getElem_toArray, List.getElem_cons_zero, List.getElem_cons_succ, List.setIfInBounds_toArray, List.set_cons_zero, List.set_cons_succ]
    refine anyZ_ready (rs := [17]) (by kernel_rfl) (by simp) ?_
    refine readyZ.skip rfl rfl (run_put (by rfl) (by rfl) (by rfl) y8.c5 y8.thaw) (fun h => absurd (by decide) h) ?_ readyZ.nil
    try simp only [Act.put, List.getElem_toArray, List.getElem_cons_zero, List.getElem_cons_succ, List.setIfInBounds_toArray, List.set_cons_zero, List.set_cons_succ]
    exact anyZ_done (by kernel_rfl) ⟨_, _, ⟨z7, z8⟩, B7, mkU _ _ _ rfl⟩ _
end Go.Proofs.YthiafmlgialbnaaGreatDoor
namespace Go.Proofs.YthiafmlgialbnaaGreatDoor
open Go.RowKit
set_option linter.unusedVariables false
set_option linter.unusedSimpArgs false
theorem lt_not (a b : It) : lt a b = false ↔ (b.f < a.f ∨ b.f = a.f ∧ b.p ≤ a.p) := by
  rw [← Bool.not_eq_true, lt_iff]; omega
/-- Number i of a list. -/
def nth (l : List It) (i : Nat) : It := (l[i]?).getD ⟨0, 0, 0, 0, 0⟩
theorem nth_get {l : List It} {i : Nat} (h : i < l.length) : l[i]? = some (nth l i) := by simp [nth, List.getElem?_eq_getElem h]
theorem nth_set {l : List It} {a i : Nat} {t : It} (ha : a < l.length) : nth (l.set a t) i = if i = a then t else nth l i := by
  unfold nth
  rw [List.getElem?_set]
  by_cases h : a = i
  · subst h; simp [ha]
  · rw [if_neg h, if_neg (fun e => h e.symm)]
/-- Two change places. -/
def swp (l : List It) (a b : Nat) : List It := (l.set a (nth l b)).set b (nth l a)
theorem swp_len (l : List It) (a b : Nat) : (swp l a b).length = l.length := by simp [swp]
theorem swp_nth {l : List It} {a b : Nat} (ha : a < l.length) (hb : b < l.length) (i : Nat) : nth (swp l a b) i = if i = b then nth l a else if i = a then nth l b else nth l i := by
  unfold swp
  rw [nth_set (by simpa using hb), nth_set ha]
theorem swp_perm {l : List It} {a b : Nat} (ha : a < l.length) (hb : b < l.length) : (swp l a b).Perm l := by
  have : ((l.set a l[b]).set b l[a]).Perm l := List.set_set_perm ha hb
  have e1 : nth l b = l[b] := by simp [nth, hb]
  have e2 : nth l a = l[a] := by simp [nth, ha]
  unfold swp
  rw [e1, e2]
  exact this
/-- No item is popped before the one above it. -/
def Heap (l : List It) : Prop := ∀ i, 0 < i → i < l.length → lt (nth l i) (nth l ((i - 1) / 2)) = false
/-- A heap but for place a, whose item may be too low. -/
def Low (l : List It) (a : Nat) : Prop := (∀ i, 0 < i → i < l.length → i ≠ a → lt (nth l i) (nth l ((i - 1) / 2)) = false) ∧ ∀ i, 0 < a → 0 < i → i < l.length → (i - 1) / 2 = a → lt (nth l i) (nth l ((a - 1) / 2)) = false
theorem Low.next {l : List It} {a : Nat} (h : Low l a) (ha0 : 0 < a) (ha : a < l.length) (hl : lt (nth l a) (nth l ((a - 1) / 2)) = true) : Low (swp l a ((a - 1) / 2)) ((a - 1) / 2) := by
  have hb : (a - 1) / 2 < l.length := by omega
  have hn := swp_nth ha hb
  rw [lt_iff] at hl
  refine ⟨fun i hi hil hne => ?_, fun i hp hi hil hpi => ?_⟩
  · rw [swp_len] at hil
    rw [hn, hn, if_neg hne]
    by_cases e1 : i = a
    · subst e1
      rw [if_pos rfl, if_pos rfl, lt_not]
      omega
    · rw [if_neg e1]
      by_cases e2 : (i - 1) / 2 = (a - 1) / 2
      · rw [if_pos e2]
        have := h.1 i hi hil e1
        rw [e2] at this
        rw [lt_not] at this ⊢
        omega
      · rw [if_neg e2]
        by_cases e3 : (i - 1) / 2 = a
        · rw [if_pos e3]
          exact h.2 i ha0 hi hil e3
        · rw [if_neg e3]
          exact h.1 i hi hil e1
  · rw [swp_len] at hil
    have e0 : ¬ i = (a - 1) / 2 := by omega
    have e4 : ¬ ((a - 1) / 2 - 1) / 2 = (a - 1) / 2 := by omega
    have e5 : ¬ ((a - 1) / 2 - 1) / 2 = a := by omega
    rw [hn, hn, if_neg e0, if_neg e4, if_neg e5]
    have q := h.1 ((a - 1) / 2) hp hb (by omega)
    by_cases e1 : i = a
    · rw [if_pos e1]
      exact q
    · rw [if_neg e1]
      have r := h.1 i hi hil e1
      rw [hpi] at r
      rw [lt_not] at q r ⊢
      omega
theorem Low.done {l : List It} {a : Nat} (h : Low l a) (he : a = 0 ∨ lt (nth l a) (nth l ((a - 1) / 2)) = false) : Heap l := fun i hi hil => by
  by_cases e : i = a
  · subst e
    rcases he with e | e
    · omega
    · exact e
  · exact h.1 i hi hil e
theorem Low.push {l : List It} (h : Heap l) (t : It) : Low (l ++ [t]) l.length := by
  have hn : ∀ i, i < l.length → nth (l ++ [t]) i = nth l i := fun i hi => by simp [nth, List.getElem?_append_left hi]
  refine ⟨fun i hi hil hne => ?_, fun i _ hi hil hp => ?_⟩
  · simp at hil
    rw [hn i (by omega), hn _ (by omega)]
    exact h i hi (by omega)
  · simp at hil
    omega
/-- A heap but for place a, whose item may be too high. -/
def High (l : List It) (a : Nat) : Prop := (∀ i, 0 < i → i < l.length → (i - 1) / 2 ≠ a → lt (nth l i) (nth l ((i - 1) / 2)) = false) ∧ ∀ i, 0 < a → 0 < i → i < l.length → (i - 1) / 2 = a → lt (nth l i) (nth l ((a - 1) / 2)) = false
theorem High.next {l : List It} {a c : Nat} (h : High l a) (hc : c < l.length) (hc0 : 0 < c) (hp : (c - 1) / 2 = a) (hl : lt (nth l c) (nth l a) = true) (hm : ∀ i, 0 < i → i < l.length → (i - 1) / 2 = a → lt (nth l i) (nth l c) = false) : High (swp l c a) c := by
  have ha : a < l.length := by omega
  have hn := swp_nth hc ha
  rw [lt_iff] at hl
  refine ⟨fun i hi hil hne => ?_, fun i hp' hi hil hpi => ?_⟩
  · rw [swp_len] at hil
    rw [hn, hn]
    by_cases e1 : i = a
    · have e2 : ¬ (i - 1) / 2 = a := by omega
      rw [if_pos e1, if_neg e2, if_neg hne]
      have := h.2 c (by omega) hc0 hc hp
      rw [← e1] at this
      exact this
    · rw [if_neg e1]
      by_cases e2 : i = c
      · subst e2
        rw [if_pos rfl, if_pos hp, lt_not]
        omega
      · rw [if_neg e2]
        by_cases e3 : (i - 1) / 2 = a
        · rw [if_pos e3]
          exact hm i hi hil e3
        · rw [if_neg e3, if_neg hne]
          exact h.1 i hi hil e3
  · rw [swp_len] at hil
    rw [hn, hn, if_neg (by omega), if_neg (by omega), if_pos hp]
    have := h.1 i hi hil (by omega)
    rw [hpi] at this
    exact this
theorem High.done {l : List It} {a : Nat} (h : High l a) (hm : ∀ i, 0 < i → i < l.length → (i - 1) / 2 = a → lt (nth l i) (nth l a) = false) : Heap l := fun i hi hil => by
  by_cases e : (i - 1) / 2 = a
  · rw [e]; exact hm i hi hil e
  · exact h.1 i hi hil e
/-- What Pop lays: the last one at the first place. -/
def pop (l : List It) : List It := (l.set 0 (nth l (l.length - 1))).take (l.length - 1)
theorem pop_len (l : List It) : (pop l).length = l.length - 1 := by simp [pop]
theorem pop_nth {l : List It} {i : Nat} (h0 : 0 < i) (hi : i < l.length - 1) : nth (pop l) i = nth l i := by
  unfold pop nth
  rw [List.getElem?_take, if_pos hi, List.getElem?_set, if_neg (by omega)]
theorem High.pop {l : List It} (h : Heap l) : High (pop l) 0 := by
  refine ⟨fun i hi hil hne => ?_, fun i h0 => by omega⟩
  rw [pop_len] at hil
  rw [pop_nth hi hil, pop_nth (by omega) (by omega)]
  exact h i hi (by omega)
theorem pop_perm {l : List It} (h : 0 < l.length) : l.Perm (nth l 0 :: pop l) := by
  cases l with
  | nil => simp at h
  | cons t r =>
    rcases List.eq_nil_or_concat r with rfl | ⟨m, z, rfl⟩
    · simp [pop, nth]
    · have e : pop (t :: (m ++ [z])) = z :: m := by
        unfold pop nth
        simp
      rw [List.concat_eq_append, e]
      have e2 : nth (t :: (m ++ [z])) 0 = t := rfl
      rw [e2]
      exact List.Perm.cons t (List.perm_append_comm.trans (by simp))
theorem Heap.top {l : List It} (h : Heap l) : ∀ i, i < l.length → lt (nth l i) (nth l 0) = false := by
  intro i
  induction i using Nat.strongRecOn with
  | _ i ih =>
    intro hi
    by_cases e : i = 0
    · subst e
      rw [lt_not]; omega
    · have q := ih ((i - 1) / 2) (by omega) (by omega)
      have r := h i (by omega) hi
      rw [lt_not] at q r ⊢
      omega
theorem Heap.least {l : List It} (h : Heap l) {t : It} (ht : t ∈ l) : lt t (nth l 0) = false := by
  obtain ⟨i, hi, rfl⟩ := List.getElem_of_mem ht
  have := h.top i hi
  rwa [show nth l i = l[i] by simp [nth, hi]] at this
end Go.Proofs.YthiafmlgialbnaaGreatDoor
namespace Go.Proofs.YthiafmlgialbnaaGreatDoor
open Go.RowKit
set_option linter.unusedVariables false
set_option linter.unusedSimpArgs false
theorem int_eq {x y : Int} (h : x = y) : Value.int .i64 x = .int .i64 y := by rw [h]
/-- What a loop of lift or sink keeps: the heap's row, its items changed about. -/
def Kp (w : World) (b : Nat) (v : Value) (n : Int) (l : List It) (l' : List It) (wr : World) : Prop :=
  Its wr v l' ∧ l'.Perm l ∧ Hp wr b v n false ∧ Turns (fun k => v.ownBlock = some k) w wr
theorem Kp.upto {w wr w' : World} {b : Nat} {v : Value} {n : Int} {l l' : List It} (h : Kp w b v n l l' wr) (hb : Below wr.heap.size wr w') : Kp w b v n l l' w' :=
  ⟨h.1.upto hb, h.2.1, h.2.2.1.upto hb, h.2.2.2.trans (Turns.of_below hb)⟩
theorem Kp.swap {w wr w' : World} {b : Nat} {v : Value} {n : Int} {l l' : List It} {i j : Nat} (h : Kp w b v n l l' wr) (hi : i < l'.length) (hj : j < l'.length) (h1 : Its w' v (swp l' i j)) (h2 : Turns (fun k => v.ownBlock = some k) wr w') : Kp w b v n l (swp l' i j) w' :=
  ⟨h1, (swp_perm hi hj).trans h.2.1, h.2.2.1.kept h2 (h.2.2.1.ne_row h.1 (by decide)), h.2.2.2.trans (h2.mono (fun _ _ e => .inl e))⟩
theorem Kp.before {w wr : World} {b : Nat} {v : Value} {n : Int} {l l' : List It} (h : Kp w b v n l l' wr) {i j : Nat} {I J : Int} {r : Bool} (eI : I = (i : Nat)) (eJ : J = (j : Nat)) (hi : i < l'.length) (hj : j < l'.length) (hr : lt (nth l' i) (nth l' j) = r) :
    Calls Tryz.prog 211 #[ptr b, .int .i64 I, .int .i64 J] wr fun e w' => e = .returned (.bool r) ∧ Kp w b v n l l' w' := by
  subst eI; subst eJ; subst hr
  exact (before_is b v n l' i j _ _ wr h.2.2.1 h.1 (nth_get hi) (nth_get hj)).mono fun e w' q => ⟨q.1, h.upto q.2⟩
theorem Kp.swaps {w wr : World} {b : Nat} {v : Value} {n : Int} {l l' : List It} (h : Kp w b v n l l' wr) {i j : Nat} {I J : Int} (eI : I = (i : Nat)) (eJ : J = (j : Nat)) (hi : i < l'.length) (hj : j < l'.length) :
    Calls Tryz.prog 212 #[ptr b, .int .i64 I, .int .i64 J] wr fun e w' => e = .returned (.tuple #[]) ∧ Kp w b v n l (swp l' i j) w' := by
  subst eI; subst eJ
  exact (swap_is b v n false l' i j _ _ wr h.2.2.1 h.1 (nth_get hi) (nth_get hj)).mono fun e w' q => ⟨q.1, h.swap hi hj q.2.1 q.2.2⟩
set_option maxRecDepth 100000 in
set_option maxHeartbeats 2000000 in
theorem lift_is (b : Nat) (v : Value) (n : Int) (l : List It) (w : World) (h : Hp w b v n false) (hv : Its w v l) (hl : 0 < l.length) (hlow : Low l (l.length - 1)) :
    Calls Tryz.prog 207 #[ptr b] w fun e w' => e = .returned (.tuple #[]) ∧ ∃ l', Heap l' ∧ Kp w b v n l l' w' := by
  have hk0 : Kp w b v n l l w := ⟨hv, List.Perm.refl _, h, Turns.refl _ _⟩
  obtain ⟨g, cap, hve, hcap, hmax, hg⟩ := hv.form hl
  have c1 : w.cell? ⟨b, 1, none⟩ = some (.slice (some ⟨g, 0, none⟩) l.length cap) := hve ▸ h.c 1
  have hm : l.length ≤ 9223372036854775807 := by unfold maxLen at hmax; omega
  have HK := hide hk0
  have HL := hide hlow
  clear h hv hk0 hlow hve hcap hmax
  go_enter Tryz.func207, Tryz.ntmps207
  go_wp2_with fail
  go_loopw [2] (fun i wr => ∃ (a : Nat) (l' : List It), i = .int .i64 (a : Nat) ∧ a < l'.length ∧ l'.length = l.length ∧ Low l' a ∧ Kp w b v n l l' wr) (fun i _ => (intOf i).toNat)
  case atStart => exact ⟨l.length - 1, l, by go_num, by omega, rfl, HL.out, HK.out⟩
  case round =>
    obtain ⟨a, l', rfl, hal, hll, hlow, hkp⟩ := hrel
    have HKp := hide hkp
    have HLo := hide hlow
    clear hkp hlow HK HL
    by_cases ha : a = 0
    · subst ha
      go_wp2_with fail
      go_end0
      exact ⟨rfl, l', HLo.out.done (.inl rfl), HKp.out⟩
    · obtain ⟨c, hc⟩ : ∃ c : Nat, (a - 1) / 2 = c := ⟨_, rfl⟩
      have hcl : c < l'.length := by omega
      have hca : c < a := by omega
      have hd : ((a : Int) - 1).tdiv 2 = (c : Nat) := by rw [Int.tdiv_eq_ediv_of_nonneg (by omega)]; omega
      cases hlt : lt (nth l' a) (nth l' c)
      · go_wp2_with (go_at_call 211; refine (HKp.out.before rfl rfl hal hcl hlt).mono ?_; rintro e w1 ⟨rfl, hk1⟩)
        refine bodyPost_ret (results_none rfl _ _ _) rfl ?_
        exact ⟨rfl, l', HLo.out.done (.inr (by rw [hc]; exact hlt)), hk1⟩
      · go_wp2_with (go_at_call 211; refine (HKp.out.before rfl rfl hal hcl hlt).mono ?_; rintro e w1 ⟨rfl, hk1⟩)
        refine (hk1.swaps rfl rfl hal hcl).mono ?_
        rintro e w2 ⟨rfl, hk2⟩
        have HK2 := hide hk2
        clear hk1 hk2 HKp
        go_wp2_with fail
        go_roundw
        case rel => exact ⟨c, _, rfl, by rw [swp_len]; exact hcl, by rw [swp_len]; exact hll, by have := HLo.out.next (by omega) hal (by rw [hc]; exact hlt); rw [hc] at this; exact this, HK2.out⟩
        case measure => simp [intOf]; omega
set_option maxRecDepth 100000 in
set_option maxHeartbeats 2000000 in
theorem sink_is (b : Nat) (v : Value) (n : Int) (l : List It) (w : World) (h : Hp w b v n false) (hv : Its w v l) (hlen : l.length ≤ 1152921504606846976) (hhigh : High l 0) :
    Calls Tryz.prog 209 #[ptr b] w fun e w' => e = .returned (.tuple #[]) ∧ ∃ l', Heap l' ∧ Kp w b v n l l' w' := by
  have hk0 : Kp w b v n l l w := ⟨hv, List.Perm.refl _, h, Turns.refl _ _⟩
  obtain ⟨g, cap, hve, hm⟩ := hv.slice
  have HK := hide hk0
  have HL := hide hhigh
  have HC : Hid (∀ l' wr, Kp w b v n l l' wr → wr.cell? ⟨b, 1, none⟩ = some (.slice g l.length cap)) := hide fun l' wr hk => hve ▸ hk.2.2.1.c 1
  clear h hv hk0 hhigh hve
  go_enter Tryz.func209, Tryz.ntmps209
  go_wp2_with fail
  go_loopw [2, 3] (fun i j wr => ∃ (a m : Nat) (l' : List It), i = .int .i64 (a : Nat) ∧ j = .int .i64 (m : Nat) ∧ m = 2 * a + 1 ∧ (a < l'.length ∨ a = 0) ∧ l'.length = l.length ∧ High l' a ∧ Kp w b v n l l' wr) (fun i _ _ => l.length - (intOf i).toNat)
  case atStart => exact ⟨0, 1, l, rfl, rfl, rfl, .inr rfl, rfl, HL.out, HK.out⟩
  case round =>
    obtain ⟨a, m, l', rfl, rfl, hma, hal, hll, hhigh, hkp⟩ := hrel
    have HKp := hide hkp
    have HHi := hide hhigh
    have c1 := HC.out l' _ hkp
    clear hkp hhigh HK HL
    have hch : ∀ i, 0 < i → (i - 1) / 2 = a → i = m ∨ i = m + 1 := fun i h1 h2 => by omega
    have HCh := hide hch
    clear hch
    obtain ⟨A, hA⟩ : ∃ A : Int, (a : Int) = A := ⟨_, rfl⟩
    obtain ⟨M, hM⟩ : ∃ M : Int, (m : Int) = M := ⟨_, rfl⟩
    rw [hA, hM]
    have HA := hide hA
    have HM := hide hM
    have HLN := hide hlen
    have HLM := hide hm
    by_cases hb : m < l.length
    · have hbi : M < (l.length : Nat) := by omega
      have hM0 : 0 ≤ M := by omega
      have hM1 : M + 1 ≤ 1152921504606846976 := by omega
      have hA0 : 0 ≤ A := by omega
      have hbl : m < l'.length := by omega
      have hal' : a < l'.length := by omega
      have HE : Hid ((m - 1) / 2 = a ∧ (m + 1 - 1) / 2 = a) := hide (by omega)
      have HMA := hide hma
      have HAL := hide hal
      have HBL := hide hbl
      have HALL := hide hal'
      have HLL := hide hll
      by_cases hr : m + 1 < l.length
      · have hri : M + 1 < (l.length : Nat) := by omega
        have HRL : Hid (m + 1 < l'.length) := hide (by omega)
        have HM1 : Hid (M + 1 = ((m + 1 : Nat) : Int)) := hide (by omega)
        clear hma hal hA hM hlen hm hb hr hbl hal' hll
        cases hr1 : lt (nth l' (m + 1)) (nth l' m)
        · have hmin : Hid (∀ i, 0 < i → i < l'.length → (i - 1) / 2 = a → lt (nth l' i) (nth l' m) = false) := hide fun i h1 h2 h3 => by
            rcases HCh.out i h1 h3 with rfl | rfl
            · rw [lt_not]; omega
            · exact hr1
          cases hq : lt (nth l' m) (nth l' a)
          · go_wp2_with fail
            refine (HKp.out.before HM1.out HM.out.symm HRL.out HBL.out hr1).mono ?_
            rintro e w1 ⟨rfl, hk1⟩
            have HK1 := hide hk1
            clear hk1
            go_wp2_with fail
            refine (HK1.out.before HM.out.symm HA.out.symm HBL.out HALL.out hq).mono ?_
            rintro e w2 ⟨rfl, hk2⟩
            have HK2 := hide hk2
            clear hk2
            go_wp2_with fail
            refine bodyPost_ret (results_none rfl _ _ _) rfl ?_
            exact ⟨rfl, l', HHi.out.done (fun i h1 h2 h3 => by have := hmin.out i h1 h2 h3; rw [lt_not] at this hq ⊢; omega), HK2.out⟩
          · go_wp2_with fail
            refine (HKp.out.before HM1.out HM.out.symm HRL.out HBL.out hr1).mono ?_
            rintro e w1 ⟨rfl, hk1⟩
            have HK1 := hide hk1
            clear hk1
            go_wp2_with fail
            refine (HK1.out.before HM.out.symm HA.out.symm HBL.out HALL.out hq).mono ?_
            rintro e w2 ⟨rfl, hk2⟩
            have HK2 := hide hk2
            clear hk2
            go_wp2_with fail
            refine (HK2.out.swaps HM.out.symm HA.out.symm HBL.out HALL.out).mono ?_
            rintro e w3 ⟨rfl, hk3⟩
            have HK3 := hide hk3
            clear hk3
            go_wp2_with fail
            go_roundw
            case rel => exact ⟨m, 2 * (m) + 1, _, int_eq (by have := HM.out; omega), int_eq (by have := HM.out; omega), rfl, .inl (by rw [swp_len]; exact HBL.out), by rw [swp_len]; exact HLL.out, HHi.out.next HBL.out (by have := HMA.out; omega) (by have := HE.out; omega) hq hmin.out, HK3.out⟩
            case measure => have := HMA.out; have := HA.out; have := HM.out; have := HBL.out; have := HLL.out; simp [intOf]; omega
        · have hmin : Hid (∀ i, 0 < i → i < l'.length → (i - 1) / 2 = a → lt (nth l' i) (nth l' (m + 1)) = false) := hide fun i h1 h2 h3 => by
            rcases HCh.out i h1 h3 with rfl | rfl
            · rw [lt_iff] at hr1; rw [lt_not]; omega
            · rw [lt_not]; omega
          cases hq : lt (nth l' (m + 1)) (nth l' a)
          · go_wp2_with fail
            refine (HKp.out.before HM1.out HM.out.symm HRL.out HBL.out hr1).mono ?_
            rintro e w1 ⟨rfl, hk1⟩
            have HK1 := hide hk1
            clear hk1
            go_wp2_with fail
            refine (HK1.out.before HM1.out HA.out.symm HRL.out HALL.out hq).mono ?_
            rintro e w2 ⟨rfl, hk2⟩
            have HK2 := hide hk2
            clear hk2
            go_wp2_with fail
            refine bodyPost_ret (results_none rfl _ _ _) rfl ?_
            exact ⟨rfl, l', HHi.out.done (fun i h1 h2 h3 => by have := hmin.out i h1 h2 h3; rw [lt_not] at this hq ⊢; omega), HK2.out⟩
          · go_wp2_with fail
            refine (HKp.out.before HM1.out HM.out.symm HRL.out HBL.out hr1).mono ?_
            rintro e w1 ⟨rfl, hk1⟩
            have HK1 := hide hk1
            clear hk1
            go_wp2_with fail
            refine (HK1.out.before HM1.out HA.out.symm HRL.out HALL.out hq).mono ?_
            rintro e w2 ⟨rfl, hk2⟩
            have HK2 := hide hk2
            clear hk2
            go_wp2_with fail
            refine (HK2.out.swaps HM1.out HA.out.symm HRL.out HALL.out).mono ?_
            rintro e w3 ⟨rfl, hk3⟩
            have HK3 := hide hk3
            clear hk3
            go_wp2_with fail
            go_roundw
            case rel => exact ⟨m + 1, 2 * (m + 1) + 1, _, int_eq (by have := HM.out; omega), int_eq (by have := HM.out; omega), rfl, .inl (by rw [swp_len]; exact HRL.out), by rw [swp_len]; exact HLL.out, HHi.out.next HRL.out (by have := HMA.out; omega) (by have := HE.out; omega) hq hmin.out, HK3.out⟩
            case measure => have := HMA.out; have := HA.out; have := HM.out; have := HBL.out; have := HLL.out; simp [intOf]; omega
      · have hri : ¬ M + 1 < (l.length : Nat) := by omega
        have hmin : Hid (∀ i, 0 < i → i < l'.length → (i - 1) / 2 = a → lt (nth l' i) (nth l' m) = false) := hide fun i h1 h2 h3 => by
          rcases HCh.out i h1 h3 with rfl | rfl
          · rw [lt_not]; omega
          · omega
        clear hma hal hA hM hlen hm hb hr hbl hal' hll
        cases hq : lt (nth l' m) (nth l' a)
        · go_wp2_with fail
          refine (HKp.out.before HM.out.symm HA.out.symm HBL.out HALL.out hq).mono ?_
          rintro e w2 ⟨rfl, hk2⟩
          have HK2 := hide hk2
          clear hk2
          go_wp2_with fail
          refine bodyPost_ret (results_none rfl _ _ _) rfl ?_
          exact ⟨rfl, l', HHi.out.done (fun i h1 h2 h3 => by have := hmin.out i h1 h2 h3; rw [lt_not] at this hq ⊢; omega), HK2.out⟩
        · go_wp2_with fail
          refine (HKp.out.before HM.out.symm HA.out.symm HBL.out HALL.out hq).mono ?_
          rintro e w2 ⟨rfl, hk2⟩
          have HK2 := hide hk2
          clear hk2
          go_wp2_with fail
          refine (HK2.out.swaps HM.out.symm HA.out.symm HBL.out HALL.out).mono ?_
          rintro e w3 ⟨rfl, hk3⟩
          have HK3 := hide hk3
          clear hk3
          go_wp2_with fail
          go_roundw
          case rel => exact ⟨m, 2 * (m) + 1, _, int_eq (by have := HM.out; omega), int_eq (by have := HM.out; omega), rfl, .inl (by rw [swp_len]; exact HBL.out), by rw [swp_len]; exact HLL.out, HHi.out.next HBL.out (by have := HMA.out; omega) (by have := HE.out; omega) hq hmin.out, HK3.out⟩
          case measure => have := HMA.out; have := HA.out; have := HM.out; have := HBL.out; have := HLL.out; simp [intOf]; omega
    · have hbi : ¬ M < (l.length : Nat) := by omega
      clear hA hM
      go_wp2_with fail
      go_end0
      exact ⟨rfl, l', HHi.out.done (fun i h1 h2 h3 => by rcases HCh.out i h1 h3 with rfl | rfl <;> omega), HKp.out⟩
end Go.Proofs.YthiafmlgialbnaaGreatDoor
