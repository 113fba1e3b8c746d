/-
  The document's Move, where it refuses. The document's Put, where it refuses. What single operations do, said of their operands' values. The document's Take. The document's Move, where it moves. The units before a place and from it on, as slices of the document's row; appended to a row. The document's Put, where it puts. The document's acts, by what the program's tell.
-/
import Derived.Test.YtkodeopkgmichaaRefPlace
import Derived.Test.YtkodeopkgmichaaFreeSt
import Derived.Test.YtkodeopkgmichaaBase
import Derived.Test.YtkodeopkgmichaaZlast
namespace Go.Proofs.Ytkodeopkgmichaa
open Go.RowKit Go.Shelf
set_option linter.unusedVariables false
set_option linter.unusedSimpArgs false
theorem Rx.rxr {w : World} {r : Nat} {a : Option Addr} {cap : Nat} {l : List Bd} (h : Rx w r (.slice a l.length cap) l) (hl : l.length ≤ 256) : RxR w r a cap l := by
  obtain ⟨a', cap', e, h1, h2, hat⟩ := h.us.form
  cases e
  refine ⟨h.c, h1, hl, fun i t ht => ?_⟩
  obtain ⟨g, rfl, hg, d0, d1, d2, d3, d4⟩ := hat i t ht
  exact ⟨g, 0, rfl, hg, by simpa using d0, by simpa using d1, by simpa using d2, by simpa using d3, by simpa using d4⟩
set_option maxRecDepth 100000 in
set_option maxHeartbeats 4000000 in
theorem refmove_none (r : Nat) (a : Option Addr) (cap : Nat) (l : List Bd) (i x y : Int) (w : World) (h : RxR w r a cap l) (hg : gOf l i = none) :
    Calls Try.prog 24 #[ptr r, .int .i64 i, cel x y] w fun e w' => e = .returned (.int .i64 4) ∧ Below w.heap.size w w' := by
  have HP := hide (place_any r a cap l i _ (h.kept (box1 w (.cells #[.int .i64 x, .int .i64 y] 32))))
  clear h
  go_enter Try.func24, Try.ntmps24
  go_wp2_with fail
  refine HP.out.mono ?_
  rintro e w1 ⟨z, rfl, rfl, (⟨rfl, -⟩ | ⟨k, t, rfl, hk, rfl⟩)⟩
  · go_wp2_with fail
    go_ret
    exact ⟨rfl, box1 _ _⟩
  · exact absurd rfl (gOf_none.1 hg t (List.mem_of_getElem? hk))
set_option maxRecDepth 100000 in
set_option maxHeartbeats 4000000 in
theorem refmove_no (r : Nat) (a : Option Addr) (cap : Nat) (l : List Bd) (i x y : Int) (c : Rc) (w : World) (h : RxR w r a cap l) (hs : Sorted l) (hg : gOf l i = some c) (hn : may x y c.a c.b = false ∨ freeR l i x y c.a c.b = false) :
    Calls Try.prog 24 #[ptr r, .int .i64 i, cel x y] w fun e w' => e = .returned (.int .i64 (if may x y c.a c.b = false then 1 else 6)) ∧ Below w.heap.size w w' := by
  obtain ⟨cd, hcd⟩ : ∃ cd : Int, (if may x y c.a c.b = false then 1 else 6) = cd := ⟨_, rfl⟩
  rw [hcd]
  have HCd := hide hcd
  clear hcd
  obtain ⟨X, hX⟩ : ∃ X, w.alloc (.cells #[.int .i64 x, .int .i64 y] 32) = X := ⟨_, rfl⟩
  have B0 : Below w.heap.size w X := hX ▸ box1 _ _
  have z0 : X.heap.size = w.heap.size + 1 := by rw [← hX]; simp
  have x0 : X.cell? ⟨w.heap.size, 0, none⟩ = some (.int .i64 x) := by rw [← hX, cell_of_row _ w.heap.size 0 _ _ _ (heap_alloc_new w _)]; rfl
  have x1 : X.cell? ⟨w.heap.size, 1, none⟩ = some (.int .i64 y) := by rw [← hX, cell_of_row _ w.heap.size 1 _ _ _ (heap_alloc_new w _)]; rfl
  have h0 := h.kept B0
  have HP := hide (place_any r a cap l i X h0)
  go_enter Try.func24, Try.ntmps24
  go_wp2_with (rw [hX])
  refine HP.out.mono ?_
  rintro e w1 ⟨z, rfl, hw1, (⟨rfl, hno⟩ | ⟨k, t, rfl, hk, rfl⟩)⟩
  · rw [hno] at hg; cases hg
  subst hw1
  have htr : t.r = c := by have := gOf_mem hs (List.mem_of_getElem? hk); rw [hg] at this; cases this; rfl
  have hkl : k < l.length := (List.getElem?_eq_some_iff.1 hk).1
  have hln := h0.2.2.1
  have hcl := h0.2.1
  obtain ⟨g, o, rfl, hgl, d0, d1, d2, d3, d4⟩ := h0.2.2.2 k t hk
  rw [htr] at d1 d2 d3 d4
  have cL := h0.1
  have hki : (0 : Int) ≤ (k : Nat) ∧ (k : Int) < (l.length : Nat) ∧ (l.length : Int) ≤ 256 := by omega
  clear HP hX
  go_wp2_with fail
  obtain ⟨X2, hX2⟩ : ∃ X2, w1.alloc (.cells #[.int .i64 x, .int .i64 y, .int .i64 c.a, .int .i64 c.b] 34) = X2 := ⟨_, rfl⟩
  have B2 : Below w1.heap.size w1 X2 := hX2 ▸ box1 _ _
  have F2 : Four X2 (w.heap.size + 1) x y c.a c.b := by rw [← z0]; exact hX2 ▸ cells4 (Below.refl _ _)
  rw [hX2]
  cases hm : may x y c.a c.b
  · refine (refmay_is _ hm).mono ?_
    rintro e w2 ⟨rfl, hb2⟩
    have HB := hide (bt B0 (bt B2 hb2))
    clear hb2 hX2
    go_wp2_with fail
    go_ret
    exact ⟨ret_int (by rw [← HCd.out, hm]; rfl), HB.out⟩
  · have hfr : freeR l t.id x y c.a c.b = false := by
      rcases hn with q | q
      · rw [hm] at q; cases q
      · exact q
    refine (refmay_is _ hm).mono ?_
    rintro e w2 ⟨rfl, hb2⟩
    have F3 := F2.kept hb2
    obtain ⟨⟨k0, k1, k2, k3⟩, -, -⟩ := id F3
    have h2 := h0.kept (bt B2 hb2)
    have HFr := hide (refree_any r (some ⟨g, o, none⟩) cap l t.id x y c.a c.b w2 h2)
    rw [hfr] at HFr
    have HB := hide (bt B0 (bt B2 hb2))
    clear hb2 hX2 F3 F2 h2
    go_wp2_with fail
    refine HFr.out.mono ?_
    rintro e w3 ⟨rfl, hb3⟩
    have HB3 := hide (bt HB.out hb3)
    clear hb3
    go_wp2_with fail
    go_ret
    exact ⟨ret_int (by rw [← HCd.out, hm]; rfl), HB3.out⟩
end Go.Proofs.Ytkodeopkgmichaa
namespace Go.Proofs.Ytkodeopkgmichaa
open Go.RowKit Go.Shelf
set_option linter.unusedVariables false
set_option linter.unusedSimpArgs false
set_option maxRecDepth 100000 in
set_option maxHeartbeats 4000000 in
theorem refput_arg (r : Nat) (i x y a b : Int) (w : World) (hn : may x y a b = false ∨ sm a b = false) :
    Calls Try.prog 26 #[ptr r, .int .i64 i, rct x y a b] w fun e w' => e = .returned (.int .i64 1) ∧ Below w.heap.size w w' := by
  obtain ⟨X, hX⟩ : ∃ X, w.alloc (.cells #[.int .i64 x, .int .i64 y, .int .i64 a, .int .i64 b] 34) = X := ⟨_, rfl⟩
  have B0 : Below w.heap.size w X := hX ▸ box1 _ _
  have F0 : Four X w.heap.size x y a b := hX ▸ cells4 (Below.refl _ _)
  obtain ⟨⟨k0, k1, k2, k3⟩, -, -⟩ := id F0
  cases hm : may x y a b
  · have HMy := hide (fun wx => refmay_is (x := x) (y := y) (a := a) (b := b) wx hm)
    clear hm hn
    go_enter Try.func26, Try.ntmps26
    go_wp2_with (first | rw [hX] | (go_at_call 40; refine (HMy.out _).mono ?_; rintro e w1 ⟨rfl, hb1⟩))
    go_ret
    exact ⟨rfl, bt B0 hb1⟩
  · have hsm : sm a b = false := by
      rcases hn with q | q
      · rw [hm] at q; cases q
      · exact q
    have HMy := hide (fun wx => refmay_is (x := x) (y := y) (a := a) (b := b) wx hm)
    clear hm hn
    go_enter Try.func26, Try.ntmps26
    go_wp2_with (rw [hX])
    refine (HMy.out _).mono ?_
    rintro e w1 ⟨rfl, hb1⟩
    obtain ⟨⟨q0, q1, q2, q3⟩, -, -⟩ := F0.kept hb1
    have HB := hide (bt B0 hb1)
    clear hb1 hX k0 k1 k2 k3
    by_cases ha : 4 < a
    · have ha1 : decide (4 < a) = true := decide_eq_true ha
      go_wp2_with fail
      go_ret
      exact ⟨rfl, HB.out⟩
    · have hb : 4 < b := by
        simp only [sm, Bool.and_eq_false_iff, decide_eq_false_iff_not] at hsm
        omega
      have ha1 : decide (4 < a) = false := decide_eq_false ha
      have hb1 : decide (4 < b) = true := decide_eq_true hb
      go_wp2_with fail
      go_ret
      exact ⟨rfl, HB.out⟩
set_option maxRecDepth 100000 in
set_option maxHeartbeats 4000000 in
theorem refput_no (r : Nat) (av : Option Addr) (cap : Nat) (l : List Bd) (i x y a b : Int) (w : World) (h : RxR w r av cap l) (hm : may x y a b = true) (hs : sm a b = true)
    (hn : (gOf l i).isSome = true ∨ 256 ≤ l.length ∨ anyR l x y a b = true) :
    Calls Try.prog 26 #[ptr r, .int .i64 i, rct x y a b] w fun e w' => e = .returned (.int .i64 (if (gOf l i).isSome then 8 else if 256 ≤ l.length then 2 else 6)) ∧ Below w.heap.size w w' := by
  obtain ⟨cd, hcd⟩ : ∃ cd : Int, (if (gOf l i).isSome then 8 else if 256 ≤ l.length then 2 else 6) = cd := ⟨_, rfl⟩
  rw [hcd]
  have HCd := hide hcd
  clear hcd
  obtain ⟨X, hX⟩ : ∃ X, w.alloc (.cells #[.int .i64 x, .int .i64 y, .int .i64 a, .int .i64 b] 34) = X := ⟨_, rfl⟩
  have B0 : Below w.heap.size w X := hX ▸ box1 _ _
  have F0 : Four X w.heap.size x y a b := hX ▸ cells4 (Below.refl _ _)
  obtain ⟨⟨k0, k1, k2, k3⟩, -, -⟩ := id F0
  have HMy := hide (fun wx => refmay_is (x := x) (y := y) (a := a) (b := b) wx hm)
  simp only [sm, Bool.and_eq_true, decide_eq_true_eq] at hs
  have ha1 : decide (4 < a) = false := decide_eq_false (by omega)
  have hb1 : decide (4 < b) = false := decide_eq_false (by omega)
  have ha2 : ¬ 4 < a := by omega
  have hb2 : ¬ 4 < b := by omega
  go_enter Try.func26, Try.ntmps26
  go_wp2_with (rw [hX])
  refine (HMy.out _).mono ?_
  rintro e w1 ⟨rfl, hw1⟩
  have F1 := F0.kept hw1
  have h1 := h.kept (bt B0 hw1)
  have HB := hide (bt B0 hw1)
  have HP := hide (place_any r av cap l i w1 h1)
  have HA := hide (anybody_any r av cap l x y a b w1 h1)
  have cL := h1.1
  have hln := h1.2.2.1
  have hlI : (0 : Int) ≤ (l.length : Nat) ∧ ((l.length : Nat) : Int) ≤ 256 := by omega
  obtain ⟨⟨q0, q1, q2, q3⟩, -, -⟩ := id F1
  clear hw1 hX k0 k1 k2 k3 h1
  go_wp2_with fail
  refine HP.out.mono ?_
  rintro e w2 ⟨z, rfl, hw2, (⟨rfl, hno⟩ | ⟨k, t, rfl, hk, rfl⟩)⟩
  · subst hw2
    have hd0 : decide ((0 : Int) ≤ -1) = false := by decide
    by_cases h3 : 256 ≤ l.length
    · have h3' : (256 : Int) ≤ (l.length : Nat) := by omega
      go_wp2_with fail
      go_ret
      exact ⟨ret_int (by rw [← HCd.out, hno]; simp [h3]), HB.out⟩
    · have h3' : ¬ (256 : Int) ≤ (l.length : Nat) := by omega
      have hany : anyR l x y a b = true := by
        rcases hn with q | q | q
        · rw [hno] at q; cases q
        · exact absurd q h3
        · exact q
      rw [hany] at HA
      clear hany
      go_wp2_with fail
      refine HA.out.mono ?_
      rintro e w3 ⟨rfl, hb3⟩
      have HB3 := hide (bt HB.out hb3)
      clear hb3
      go_wp2_with fail
      go_ret
      exact ⟨ret_int (by rw [← HCd.out, hno]; simp [h3]), HB3.out⟩
  · subst hw2
    have hsome : (gOf l t.id).isSome = true := by
      cases e : gOf l t.id with
      | none => exact absurd rfl (gOf_none.1 e t (List.mem_of_getElem? hk))
      | some c => rfl
    have hk0 : (0 : Int) ≤ (k : Nat) := by omega
    have hd0 : decide ((0 : Int) ≤ (k : Nat)) = true := decide_eq_true hk0
    go_wp2_with fail
    go_ret
    exact ⟨ret_int (by rw [← HCd.out, hsome]; rfl), HB.out⟩
end Go.Proofs.Ytkodeopkgmichaa
namespace Go.Proofs.Ytkodeopkgmichaa
open Go.RowKit
set_option linter.unusedVariables false
set_option linter.unusedSimpArgs false
theorem run_append {P : Program} {ev : Operand → Value} {o : Oper} {w w' : World} {s x : Operand} {t : TypeId} {v xv v' : Value} (ho : o.op = .call { callee := .builtin .append, args := #[s, x], argTypes := #[t, t] })
    (hs : ev s = v) (hx : ev x = xv) (hr : (Builtin.append_ #[t, t] o.type #[v, xv]).run P w = .ok v' w') : (execOp ev o).run P w = .ok (.value v') w' := by
  unfold execOp
  simp only [ho, resolve, invoke, builtin, Sem.run_bind, Sem.run_pure, Result.andThen_ok, List.map_toArray, List.map_cons, List.map_nil, hs, hx, hr]
theorem run_empty {ev : Operand → Value} {o : Oper} {w : World} (ho : o.op = .buildSlice 27 0 #[]) : (execOp ev o).run Try.prog w = .ok (.value (.slice (some ⟨w.heap.size, 0, none⟩) 0 0)) (w.alloc (.cells #[] 58)) := by
  unfold execOp
  rw [ho]
  go_simp
theorem run_store {ev : Operand → Value} {o : Oper} {w : World} {ad : Addr} {x t : Operand} {v v0 : Value} (ho : o.op = .store 27 x t) (hx : ev x = .pointer (some ad)) (ht : ev t = v) (hv : ∃ av n c, v = .slice av n c) (hc : w.cell? ad = some v0) (hf : w.frozen? ad = false) :
    (execOp ev o).run Try.prog w = .ok .skip (w.setCell ad v) := by
  obtain ⟨av, n, c, rfl⟩ := hv
  unfold execOp
  rw [ho]
  simp only [hx, ht]
  go_simp
theorem run_load {ev : Operand → Value} {o : Oper} {w : World} {ad : Addr} {x : Operand} {v : Value} (ho : o.op = .load 27 x) (hx : ev x = .pointer (some ad)) (hc : w.cell? ad = some v) :
    (execOp ev o).run Try.prog w = .ok (.value v) w := by
  unfold execOp
  rw [ho]
  simp only [hx]
  go_simp
theorem run_below {ev : Operand → Value} {o : Oper} {w : World} {x t : Operand} {g n cap k : Nat} (ho : o.op = .slice 27 x none (some t) none) (hx : ev x = .slice (some ⟨g, 0, none⟩) n cap) (ht : ev t = .int .i64 k) (hk : k ≤ cap) (hcap : cap ≤ maxLen) :
    (execOp ev o).run Try.prog w = .ok (.value (.slice (some ⟨g, 0, none⟩) k cap)) w := by
  have h1 : (0 : Int) ≤ (k : Nat) ∧ (k : Int) ≤ (cap : Nat) ∧ (cap : Int) ≤ 9223372036854775807 := by unfold maxLen at hcap; omega
  unfold execOp
  rw [ho]
  simp only [hx, ht]
  go_simp
theorem run_beyond {ev : Operand → Value} {o : Oper} {w : World} {x t : Operand} {g n cap k : Nat} {ki : Int} (ho : o.op = .slice 27 x (some t) none none) (hx : ev x = .slice (some ⟨g, 0, none⟩) n cap) (ht : ev t = .int .i64 ki) (hki : ki = (k : Nat)) (hk : k ≤ n) (hn : n ≤ cap) (hcap : cap ≤ maxLen) :
    (execOp ev o).run Try.prog w = .ok (.value (.slice (some (if cap = k then ⟨g, 0, none⟩ else ⟨g, k * 5, none⟩)) (n - k) (cap - k))) w := by
  subst hki
  have h1 : (0 : Int) ≤ (k : Nat) ∧ (k : Int) ≤ (n : Nat) ∧ (n : Int) ≤ (cap : Nat) ∧ (cap : Int) ≤ 9223372036854775807 := by unfold maxLen at hcap; omega
  unfold execOp
  rw [ho]
  simp only [hx, ht]
  by_cases hc : cap = k
  · have hc' : cap - k = 0 := by omega
    rw [if_pos hc]
    go_simp
  · have hc' : ¬ cap - k = 0 := by omega
    rw [if_neg hc]
    go_simp
theorem run_mv {P : Program} {ev : Operand → Value} {o : Oper} {w : World} {x : Operand} {v : Value} (ho : o.op = .move x) (hx : ev x = v) : (execOp ev o).run P w = .ok (.value v) w := by
  unfold execOp; rw [ho, ← hx]; rfl
theorem run_nc {P : Program} {ev : Operand → Value} {o : Oper} {w : World} {x : Operand} {ad : Addr} (ho : o.op = .nilCheck x) (hx : ev x = .pointer (some ad)) : (execOp ev o).run P w = .ok (.value (.pointer (some ad))) w := by
  unfold execOp; rw [ho]; simp only [hx]; rfl
theorem run_l {ev : Operand → Value} {o : Oper} {w : World} {x : Operand} {r : Nat} (ho : o.op = .fieldAddr 29 x 0) (hx : ev x = .pointer (some ⟨r, 0, none⟩)) : (execOp ev o).run Try.prog w = .ok (.value (.pointer (some ⟨r, 0, none⟩))) w := by
  unfold execOp; rw [ho]; simp only [hx]; go_simp
theorem run_next {ev : Operand → Value} {o : Oper} {w : World} {x : Operand} {k : Nat} (ho : o.op = .binOp .add 3 x (.const (.int .i64 1)) 3) (hx : ev x = .int .i64 k) (hc : ev (.const (.int .i64 1)) = .int .i64 1) (hk : k ≤ 1000) : (execOp ev o).run Try.prog w = .ok (.value (.int .i64 ((k : Int) + 1))) w := by
  have h1 : (0 : Int) ≤ (k : Nat) ∧ (k : Int) ≤ 1000 := by omega
  unfold execOp; rw [ho]; simp only [hx, hc]; go_simp
  exact IntWalk.i64_in _ (by omega)
theorem run_rect {ev : Operand → Value} {o : Oper} {w : World} {x : Operand} {b : Nat} {p q c d : Int} (ho : o.op = .load 34 x) (hx : ev x = .pointer (some ⟨b, 0, none⟩)) (h0 : w.cell? ⟨b, 0, none⟩ = some (.int .i64 p)) (h1 : w.cell? ⟨b, 1, none⟩ = some (.int .i64 q)) (h2 : w.cell? ⟨b, 2, none⟩ = some (.int .i64 c)) (h3 : w.cell? ⟨b, 3, none⟩ = some (.int .i64 d)) :
    (execOp ev o).run Try.prog w = .ok (.value (.agg #[.int .i64 p, .int .i64 q, .int .i64 c, .int .i64 d])) w := by
  unfold execOp; rw [ho]; simp only [hx]; go_simp
theorem run_unit {ev : Operand → Value} {o : Oper} {w : World} {x y : Operand} {i p q c d : Int} (ho : o.op = .build 58 #[(0, x), (1, y)]) (hx : ev x = .int .i64 i) (hy : ev y = .agg #[.int .i64 p, .int .i64 q, .int .i64 c, .int .i64 d]) :
    (execOp ev o).run Try.prog w = .ok (.value (.agg #[.int .i64 i, .int .i64 p, .int .i64 q, .int .i64 c, .int .i64 d])) w := by
  unfold execOp; rw [ho]; simp only [List.map_toArray, List.map_cons, List.map_nil, hx, hy]; go_simp
theorem run_single {ev : Operand → Value} {o : Oper} {w : World} {x : Operand} {i p q c d : Int} (ho : o.op = .buildSlice 27 1 #[(0, x)]) (hx : ev x = .agg #[.int .i64 i, .int .i64 p, .int .i64 q, .int .i64 c, .int .i64 d]) :
    (execOp ev o).run Try.prog w = .ok (.value (.slice (some ⟨w.heap.size, 0, none⟩) 1 1)) (w.alloc (.cells #[.int .i64 i, .int .i64 p, .int .i64 q, .int .i64 c, .int .i64 d] 58)) := by
  unfold execOp; rw [ho]; simp only [List.map_toArray, List.map_cons, List.map_nil, hx]; go_simp
theorem run_idx {ev : Operand → Value} {o : Oper} {w : World} {x t : Operand} {g n cap k : Nat} (ho : o.op = .indexAddr 27 x t) (hx : ev x = .slice (some ⟨g, 0, none⟩) n cap) (ht : ev t = .int .i64 k) (hk : k < n) : (execOp ev o).run Try.prog w = .ok (.value (.pointer (some ⟨g, k * 5, none⟩))) w := by
  have h1 : (0 : Int) ≤ (k : Nat) ∧ (k : Int) < (n : Nat) := by omega
  unfold execOp; rw [ho]; simp only [hx, ht]; go_simp
theorem run_r {ev : Operand → Value} {o : Oper} {w : World} {x : Operand} {g f : Nat} (ho : o.op = .fieldAddr 58 x 1) (hx : ev x = .pointer (some ⟨g, f, none⟩)) : (execOp ev o).run Try.prog w = .ok (.value (.pointer (some ⟨g, f + 1, none⟩))) w := by
  unfold execOp; rw [ho]; simp only [hx]; go_simp
theorem run_lay {ev : Operand → Value} {o : Oper} {w : World} {x t : Operand} {g f : Nat} {p q c d : Int} {u0 u1 u2 u3 : Value} (ho : o.op = .store 34 x t) (hx : ev x = .pointer (some ⟨g, f, none⟩)) (ht : ev t = .agg #[.int .i64 p, .int .i64 q, .int .i64 c, .int .i64 d])
    (h0 : w.cell? ⟨g, f, none⟩ = some u0) (h1 : w.cell? ⟨g, f + 1, none⟩ = some u1) (h2 : w.cell? ⟨g, f + 2, none⟩ = some u2) (h3 : w.cell? ⟨g, f + 3, none⟩ = some u3) (hf : ∀ f, w.frozen? ⟨g, f, none⟩ = false) :
    (execOp ev o).run Try.prog w = .ok .skip ((((w.setCell ⟨g, f, none⟩ (.int .i64 p)).setCell ⟨g, f + 1, none⟩ (.int .i64 q)).setCell ⟨g, f + 2, none⟩ (.int .i64 c)).setCell ⟨g, f + 3, none⟩ (.int .i64 d)) := by
  have f0 := hf f
  have f1 := hf (f + 1)
  have f2 := hf (f + 2)
  have f3 := hf (f + 3)
  unfold execOp; rw [ho]; simp only [hx, ht]; go_simp
end Go.Proofs.Ytkodeopkgmichaa
namespace Go.Proofs.Ytkodeopkgmichaa
open Go.RowKit Go.Shelf
set_option linter.unusedVariables false
set_option linter.unusedSimpArgs false
theorem one_all {l : List Bd} : ∀ u ∈ l.flatMap Bd.cs, u.oneCell' = true := by
  intro u hu
  obtain ⟨t, _, h⟩ := List.mem_flatMap.1 hu
  exact one_bd u h
/-- A row appended to the document's units. -/
theorem Us.app {w : World} {v : Value} {l : List Bd} (h : Us w v l) (l2 : List Bd) (ad : Addr) (c : Nat) (hc : ∀ j u, (l2.flatMap Bd.cs)[j]? = some u → w.cell? (ad.add j) = some u) (hlen : l.length + l2.length ≤ 1000) :
    ∃ v' w', (Builtin.append_ #[27, 27] 27 #[v, .slice (some ad) l2.length c]).run Try.prog w = .ok v' w' ∧ Us w' v' (l ++ l2) ∧ w.grownBy w' v.ownBlock ∧ (v'.ownBlock = v.ownBlock ∨ ∃ k, v'.ownBlock = some k ∧ w.heap.size ≤ k) := by
  obtain ⟨fi, hf, hz, h5, h40⟩ := info_parts info58
  obtain ⟨v', w', q1, q2, q3, q4, q5⟩ := run_append_own_at (P := Try.prog) w 0 27 27 58 fi z58 5 40 Try.underlying27 hf hz h5 h40 rfl (by decide) v l.length _ h ad l2.length c (l2.flatMap Bd.cs) (cs_len l2) hc one_all (by unfold maxLen; omega) (by omega) (Nat.zero_le _)
  refine ⟨v', w', q1, ?_, q3, q5.imp id (fun e => ⟨_, e, Nat.le_refl _⟩)⟩
  unfold Us
  rw [List.flatMap_append, List.length_append]
  exact q2
theorem cs_drop (l : List Bd) (m : Nat) : (l.drop m).flatMap Bd.cs = (l.flatMap Bd.cs).drop (m * 5) := by
  induction l generalizing m with
  | nil => simp
  | cons t r ih =>
    cases m with
    | zero => simp
    | succ m =>
      rw [List.drop_succ_cons, ih, List.flatMap_cons, show (m + 1) * 5 = t.cs.length + m * 5 by simp [Bd.cs]; omega, List.drop_append]
      simp
theorem cs_take (l : List Bd) (m : Nat) : (l.take m).flatMap Bd.cs = (l.flatMap Bd.cs).take (m * 5) := by
  induction l generalizing m with
  | nil => simp
  | cons t r ih =>
    cases m with
    | zero => simp
    | succ m =>
      rw [List.take_succ_cons, List.flatMap_cons, ih, List.flatMap_cons, show (m + 1) * 5 = t.cs.length + m * 5 by simp [Bd.cs]; omega, List.take_append, List.take_of_length_le (l := t.cs) (by omega)]
      simp
theorem Us.drop_cells {w : World} {g n cap : Nat} {l : List Bd} (h : Us w (.slice (some ⟨g, 0, none⟩) n cap) l) (m : Nat) : ∀ j u, ((l.drop m).flatMap Bd.cs)[j]? = some u → w.cell? ((⟨g, m * 5, none⟩ : Addr).add j) = some u := fun j u hu => by
  rw [cs_drop, List.getElem?_drop] at hu
  have := World.ownsRow.cells h (g := g) rfl (m * 5 + j) u hu
  simpa [Addr.add_lit] using this
theorem Us.take_cells {w : World} {g n cap : Nat} {l : List Bd} (h : Us w (.slice (some ⟨g, 0, none⟩) n cap) l) (m : Nat) : ∀ j u, ((l.take m).flatMap Bd.cs)[j]? = some u → w.cell? ((⟨g, 0, none⟩ : Addr).add j) = some u := fun j u hu => by
  rw [cs_take] at hu
  have := World.ownsRow.cells h (g := g) rfl j u (by
    rw [List.getElem?_take] at hu
    split at hu
    · exact hu
    · cases hu)
  simpa [Addr.add_lit] using this
theorem del_at {l : List Bd} (hs : Sorted l) {k : Nat} {t : Bd} (ht : l[k]? = some t) : l.take k ++ l.drop (k + 1) = del l t.id := by
  induction l generalizing k with
  | nil => simp at ht
  | cons s r ih =>
    obtain ⟨h1, h2⟩ := List.pairwise_cons.1 hs
    cases k with
    | zero =>
      simp at ht
      subst ht
      unfold del
      rw [List.filter_cons, if_neg (by simp), List.take_zero, List.nil_append]
      exact (List.filter_eq_self.2 (fun u hu => by have := h1 u hu; simp; omega)).symm
    | succ k =>
      simp at ht
      have hm : t ∈ r := List.mem_of_getElem? ht
      have := h1 t hm
      have e := ih h2 ht
      unfold del at e ⊢
      rw [List.filter_cons, if_pos (by simp; omega), List.take_succ_cons, List.drop_succ_cons, List.cons_append, e]
/-- What an act leaves of the document's index. -/
def Rt (w : World) (r : Nat) (v : Value) (l' : List Bd) (w' : World) : Prop := ∃ v', Rx w' r v' l' ∧ Turns (fun k => k = r) w w' ∧ (∀ k, v'.ownBlock = some k → v.ownBlock = some k ∨ w.heap.size ≤ k) ∧ (v'.ownBlock ≠ some r)
set_option maxRecDepth 100000 in
set_option maxHeartbeats 4000000 in
theorem reftake_no (r : Nat) (v : Value) (l : List Bd) (i : Int) (w : World) (h : Rx w r v l) (hl : l.length ≤ 256) (hg : gOf l i = none) :
    Calls Try.prog 25 #[ptr r, .int .i64 i] w fun e w' => e = .returned (.int .i64 4) ∧ w' = w := by
  obtain ⟨a, cap, rfl, -, -, -⟩ := h.us.form
  have HP := hide (place_any r a cap l i w (h.rxr hl))
  clear h
  go_enter Try.func25, Try.ntmps25
  go_wp2_with (go_at_call 29; refine HP.out.mono ?_; rintro e w1 ⟨z, rfl, rfl, (⟨rfl, -⟩ | ⟨k, t, rfl, hk, rfl⟩)⟩)
  · go_ret
    exact ⟨rfl, rfl⟩
  · exact absurd rfl (gOf_none.1 hg t (List.mem_of_getElem? hk))
set_option maxRecDepth 100000 in
set_option maxHeartbeats 4000000 in
theorem reftake_yes (r : Nat) (v : Value) (l : List Bd) (i : Int) (w : World) (h : Rx w r v l) (hv : v.ownBlock ≠ some r) (hs : Sorted l) (hl : l.length ≤ 256) (hg : (gOf l i).isSome = true) :
    Calls Try.prog 25 #[ptr r, .int .i64 i] w fun e w' => e = .returned (.int .i64 0) ∧ Rt w r v (del l i) w' := by
  obtain ⟨a, cap, rfl, hcp, hcm, hat⟩ := h.us.form
  have HP := hide (place_any r a cap l i w (h.rxr hl))
  have H := hide h
  go_enter Try.func25, Try.ntmps25
  go_wp2_with fail
  refine HP.out.mono ?_
  rintro e w1 ⟨z, rfl, rfl, (⟨rfl, hno⟩ | ⟨k, t, rfl, hk, rfl⟩)⟩
  · rw [hno] at hg; cases hg
  have hkl : k < l.length := (List.getElem?_eq_some_iff.1 hk).1
  obtain ⟨g, rfl, hgl, -, -, -, -, -⟩ := hat k t hk
  have hrl := h.lt
  have hgr : g ≠ r := fun e => hv (by rw [← e]; rfl)
  have hki : (0 : Int) ≤ (k : Nat) ∧ (k : Int) + 1 ≤ (l.length : Nat) ∧ (l.length : Int) ≤ (cap : Nat) ∧ (k : Int) ≤ 256 := by omega
  have hcm' : (cap : Int) ≤ 9223372036854775807 := by unfold maxLen at hcm; omega
  have hk0 : decide ((k : Int) < 0) = false := by simp
  have U0 : Us (w1.drew.alloc (.cells #[] 58)) (.slice (some ⟨w1.heap.size, 0, none⟩) 0 0) [] := ⟨rfl, .inr ⟨_, 0, #[], rfl, Nat.zero_le _, heap_alloc_new w1.drew _, Nat.le_refl _, by decide, rfl, rfl⟩⟩
  have B0 : Below w1.heap.size w1 (w1.drew.alloc (.cells #[] 58)) := bt (Below.refl _ _).drew (box1 w1.drew _)
  have hR0 := H.out.kept B0
  have hTl : (l.take k).length = k := by simp; omega
  have hDl : (l.drop (k + 1)).length = l.length - (k + 1) := by simp
  obtain ⟨v1, w2, r1, u1, g1, o1⟩ := U0.app (l.take k) ⟨g, 0, none⟩ cap (hR0.us.take_cells k) (by simp; omega)
  rw [hTl] at r1
  have T1 : Turns (fun j => j = w1.heap.size) (w1.drew.alloc (.cells #[] 58)) w2 := Turns.of_grown g1 (fun j e => by simp [Value.ownBlock] at e; omega)
  have hB1 : Below w1.heap.size w1 w2 := B0.trans (T1.below (fun j e => by omega) B0.size)
  have hR1 := H.out.kept hB1
  obtain ⟨ad, hadd⟩ : ∃ ad : Addr, ad = (if cap = k + 1 then ⟨g, 0, none⟩ else ⟨g, (k + 1) * 5, none⟩) := ⟨_, rfl⟩
  obtain ⟨v2, w3, r2, u2, g2, o2⟩ := u1.app (l.drop (k + 1)) ad (cap - (k + 1)) (fun j u hu => by
    rw [hadd]
    split
    · rw [List.drop_eq_nil_of_le (by omega)] at hu
      simp at hu
    · exact hR1.us.drop_cells (k + 1) j u hu) (by simp; omega)
  rw [hDl] at r2
  have hv2 : ∃ av n c, v2 = .slice av n c := by obtain ⟨a2, cap2, e2, -, -, -⟩ := u2.form; exact ⟨_, _, _, e2⟩
  have ho1 : ∀ j, v1.ownBlock = some j → w1.heap.size ≤ j := fun j e => by
    rcases o1 with q | ⟨j', q, hj⟩
    · rw [q] at e; simp [Value.ownBlock] at e; omega
    · rw [q] at e; cases e; simp at hj; omega
  have ho2 : ∀ j, v2.ownBlock = some j → w1.heap.size ≤ j := fun j e => by
    rcases o2 with q | ⟨j', q, hj⟩
    · exact ho1 j (q ▸ e)
    · rw [q] at e; cases e; have := hB1.size; omega
  have T2 : Turns (fun j => v1.ownBlock = some j) w2 w3 := Turns.of_grown g2 (fun j e => e)
  have hB2 : Below w1.heap.size w1 w3 := hB1.trans (T2.below (fun j e => ho1 j e) hB1.size)
  have hR2 := H.out.kept hB2
  have T3 : Turns (fun j => j = r) w3 (w3.setCell ⟨r, 0, none⟩ v2) := Turns.set (S := fun j => j = r) _ rfl _
  have HEnd : Hid (Rt w1 r (.slice (some ⟨g, 0, none⟩) l.length cap) (del l t.id) (w3.setCell ⟨r, 0, none⟩ v2)) := hide (by
    have hb3 : w3.heap[r]? = some (.cells #[.slice (some ⟨g, 0, none⟩) l.length cap] 29 (0, 0)) := hR2.blk
    refine ⟨v2, ⟨Boxed.set v2 hb3, ?_⟩, (Turns.of_below hB2).trans (T3.mono (fun j _ e => .inl e)), fun j e => .inr (ho2 j e), fun e => by have := ho2 r e; omega⟩
    rw [← del_at hs hk]
    exact row_kept u2 T3 (fun j e q => by have := ho2 j e; omega))
  have cL0 : w1.drew.cell? ⟨r, 0, none⟩ = some (.slice (some ⟨g, 0, none⟩) l.length cap) := H.out.c
  have cL9 : w1.cell? ⟨r, 0, none⟩ = some (.slice (some ⟨g, 0, none⟩) l.length cap) := H.out.c
  have cL1 := hR0.c
  have cL2 := hR1.c
  have cL3 := hR2.c
  have fL3 : w3.frozen? ⟨r, 0, none⟩ = false := Boxed.frozen hR2.blk
  have HA1 := hide r1
  have HA2 := hide r2
  clear hat HP hg U0 B0 hR0 u1 g1 o1 T1 hB1 hR1 u2 g2 o2 T2 hB2 hR2 T3 r1 r2 ho1 ho2
  go_wp2_with fail
  refine Code.wp_mono (Q := Only (fun a' Y => (∃ s12 s18 s19 s25 s26 s27 : Value, a' = { tmps := #[ptr r, .int .i64 t.id, undef, undef, .int .i64 0, .int .i64 k, ptr r, .int .i64 t.id, .int .i64 k, .int .i64 k, .bool (decide ((k : Int) < 0)), ptr r, s12, ptr r, ptr r, ptr r, .slice (some ⟨g, 0, none⟩) l.length cap, .int .i64 k, s18, s19, ptr r, ptr r, ptr r, .slice (some ⟨g, 0, none⟩) l.length cap, .int .i64 k, s25, s26, s27, ptr r, ptr r], defers := [] }) ∧ Y = w3.setCell ⟨r, 0, none⟩ v2)) ?rest ?_
  case rest =>
    rintro (_ | _ | _ | _ | _) a' Y hO
    all_goals first | exact hO.elim | skip
    obtain ⟨⟨s12, s18, s19, s25, s26, s27, rfl⟩, rfl⟩ := hO
    go_wp2_with fail
    go_ret
    exact ⟨rfl, HEnd.out⟩
  have hkc : k ≤ cap := by omega
  have hk1 : k ≤ 1000 := by omega
  clear h H hTl hDl hk hs hv HEnd
  refine wp_region_z (fun w => w.cell? ⟨r, 0, none⟩ = some (.slice (some ⟨g, 0, none⟩) l.length cap)) 19 (by kernel_rfl) ?_
  refine anyZ_take 0 8 (v := ptr r) rfl (by kernel_rfl) (fun _ _ _ h => h.elim) (Or.inl ⟨by rfl, fun wx hx => run_mv (by rfl) (by rfl)⟩) (by assumption) ?_
  try simp only [Act.put, List.getElem_toArray, List.getElem_cons_zero, List.getElem_cons_succ, List.setIfInBounds_toArray, List.set_cons_zero, List.set_cons_succ]
  refine anyZ_take 2 8 (v := ptr r) rfl (by kernel_rfl) (fun _ _ _ h => h.elim) (Or.inl ⟨by rfl, fun wx hx => run_mv (by rfl) (by rfl)⟩) (by assumption) ?_
  try simp only [Act.put, List.getElem_toArray, List.getElem_cons_zero, List.getElem_cons_succ, List.setIfInBounds_toArray, List.set_cons_zero, List.set_cons_succ]
  refine anyZ_take 3 8 (v := ptr r) rfl (by kernel_rfl) (fun _ _ _ h => h.elim) (Or.inl ⟨by rfl, fun wx hx => run_nc (by rfl) (by rfl)⟩) (by assumption) ?_
  try simp only [Act.put, List.getElem_toArray, List.getElem_cons_zero, List.getElem_cons_succ, List.setIfInBounds_toArray, List.set_cons_zero, List.set_cons_succ]
  refine anyZ_take 4 8 (v := ptr r) rfl (by kernel_rfl) (fun _ _ _ h => h.elim) (Or.inl ⟨by rfl, fun wx hx => run_l (by rfl) (by rfl)⟩) (by assumption) ?_
  try simp only [Act.put, List.getElem_toArray, List.getElem_cons_zero, List.getElem_cons_succ, List.setIfInBounds_toArray, List.set_cons_zero, List.set_cons_succ]
  refine anyZ_take 5 8 (v := (.slice (some ⟨g, 0, none⟩) l.length cap)) rfl (by kernel_rfl) (fun _ _ _ h => h.elim) (Or.inl ⟨by rfl, fun wx hx => run_load (by rfl) (by rfl) hx⟩) (by assumption) ?_
  try simp only [Act.put, List.getElem_toArray, List.getElem_cons_zero, List.getElem_cons_succ, List.setIfInBounds_toArray, List.set_cons_zero, List.set_cons_succ]
  refine anyZ_take 6 8 (v := .int .i64 (k : Nat)) rfl (by kernel_rfl) (fun _ _ _ h => h.elim) (Or.inl ⟨by rfl, fun wx hx => run_mv (by rfl) (by rfl)⟩) (by assumption) ?_
  try simp only [Act.put, List.getElem_toArray, List.getElem_cons_zero, List.getElem_cons_succ, List.setIfInBounds_toArray, List.set_cons_zero, List.set_cons_succ]
  refine anyZ_take 7 8 (v := .slice (some ⟨g, 0, none⟩) k cap) rfl (by kernel_rfl) (fun _ _ _ h => h.elim) (Or.inl ⟨by rfl, fun wx hx => run_below (by rfl) (by rfl) (by rfl) hkc hcm⟩) (by assumption) ?_
  try simp only [Act.put, List.getElem_toArray, List.getElem_cons_zero, List.getElem_cons_succ, List.setIfInBounds_toArray, List.set_cons_zero, List.set_cons_succ]
  refine anyZ_take 9 8 (v := ptr r) rfl (by kernel_rfl) (fun _ _ _ h => h.elim) (Or.inl ⟨by rfl, fun wx hx => run_mv (by rfl) (by rfl)⟩) (by assumption) ?_
  try simp only [Act.put, List.getElem_toArray, List.getElem_cons_zero, List.getElem_cons_succ, List.setIfInBounds_toArray, List.set_cons_zero, List.set_cons_succ]
  refine anyZ_take 10 8 (v := ptr r) rfl (by kernel_rfl) (fun _ _ _ h => h.elim) (Or.inl ⟨by rfl, fun wx hx => run_nc (by rfl) (by rfl)⟩) (by assumption) ?_
  try simp only [Act.put, List.getElem_toArray, List.getElem_cons_zero, List.getElem_cons_succ, List.setIfInBounds_toArray, List.set_cons_zero, List.set_cons_succ]
  refine anyZ_take 11 8 (v := ptr r) rfl (by kernel_rfl) (fun _ _ _ h => h.elim) (Or.inl ⟨by rfl, fun wx hx => run_l (by rfl) (by rfl)⟩) (by assumption) ?_
  try simp only [Act.put, List.getElem_toArray, List.getElem_cons_zero, List.getElem_cons_succ, List.setIfInBounds_toArray, List.set_cons_zero, List.set_cons_succ]
  refine anyZ_take 12 8 (v := (.slice (some ⟨g, 0, none⟩) l.length cap)) rfl (by kernel_rfl) (fun _ _ _ h => h.elim) (Or.inl ⟨by rfl, fun wx hx => run_load (by rfl) (by rfl) hx⟩) (by assumption) ?_
  try simp only [Act.put, List.getElem_toArray, List.getElem_cons_zero, List.getElem_cons_succ, List.setIfInBounds_toArray, List.set_cons_zero, List.set_cons_succ]
  refine anyZ_take 13 8 (v := .int .i64 (k : Nat)) rfl (by kernel_rfl) (fun _ _ _ h => h.elim) (Or.inl ⟨by rfl, fun wx hx => run_mv (by rfl) (by rfl)⟩) (by assumption) ?_
  try simp only [Act.put, List.getElem_toArray, List.getElem_cons_zero, List.getElem_cons_succ, List.setIfInBounds_toArray, List.set_cons_zero, List.set_cons_succ]
  refine anyZ_take 14 8 (v := .int .i64 ((k : Int) + 1)) rfl (by kernel_rfl) (fun _ _ _ h => h.elim) (Or.inl ⟨by rfl, fun wx hx => run_next (by rfl) (by rfl) (by rfl) hk1⟩) (by assumption) ?_
  try simp only [Act.put, List.getElem_toArray, List.getElem_cons_zero, List.getElem_cons_succ, List.setIfInBounds_toArray, List.set_cons_zero, List.set_cons_succ]
  refine anyZ_take 15 8 (v := .slice (some ad) (l.length - (k + 1)) (cap - (k + 1))) rfl (by kernel_rfl) (fun _ _ _ h => h.elim) (Or.inl ⟨by rfl, fun wx hx => hadd ▸ run_beyond (by rfl) (by rfl) (by rfl) (by omega) hkl hcp hcm⟩) (by assumption) ?_
  try simp only [Act.put, List.getElem_toArray, List.getElem_cons_zero, List.getElem_cons_succ, List.setIfInBounds_toArray, List.set_cons_zero, List.set_cons_succ]
  refine anyZ_ready (rs := [1]) (by kernel_rfl) (by simp) ?_
  refine readyZ.cons rfl rfl (run_empty (by rfl)) (fun _ => cL1) ?_ readyZ.nil
  try simp only [Act.put, List.getElem_toArray, List.getElem_cons_zero, List.getElem_cons_succ, List.setIfInBounds_toArray, List.set_cons_zero, List.set_cons_succ]
  refine anyZ_ready (rs := [8]) (by kernel_rfl) (by simp) ?_
  refine readyZ.cons rfl rfl (run_append (by rfl) (by rfl) (by rfl) HA1.out) (fun _ => cL2) ?_ readyZ.nil
  try simp only [Act.put, List.getElem_toArray, List.getElem_cons_zero, List.getElem_cons_succ, List.setIfInBounds_toArray, List.set_cons_zero, List.set_cons_succ]
  refine anyZ_ready (rs := [16]) (by kernel_rfl) (by simp) ?_
  refine readyZ.cons rfl rfl (run_append (by rfl) (by rfl) (by rfl) HA2.out) (fun _ => cL3) ?_ readyZ.nil
  try simp only [Act.put, List.getElem_toArray, List.getElem_cons_zero, List.getElem_cons_succ, List.setIfInBounds_toArray, List.set_cons_zero, List.set_cons_succ]
  refine anyZ_take 17 8 (v := ptr r) rfl (by kernel_rfl) (fun _ _ _ h => h.elim) (Or.inl ⟨by rfl, fun wx hx => run_nc (by rfl) (by rfl)⟩) (by assumption) ?_
  try simp only [Act.put, List.getElem_toArray, List.getElem_cons_zero, List.getElem_cons_succ, List.setIfInBounds_toArray, List.set_cons_zero, List.set_cons_succ]
  refine anyZ_take 18 8 (v := ptr r) rfl (by kernel_rfl) (fun _ _ _ h => h.elim) (Or.inl ⟨by rfl, fun wx hx => run_l (by rfl) (by rfl)⟩) (by assumption) ?_
  try simp only [Act.put, List.getElem_toArray, List.getElem_cons_zero, List.getElem_cons_succ, List.setIfInBounds_toArray, List.set_cons_zero, List.set_cons_succ]
  refine anyZ_ready (rs := [19]) (by kernel_rfl) (by simp) ?_
  refine readyZ.skip rfl rfl (run_store (by rfl) (by rfl) (by rfl) hv2 cL3 fL3) (fun h => absurd rfl h) ?_ readyZ.nil
  try simp only [Act.put, List.getElem_toArray, List.getElem_cons_zero, List.getElem_cons_succ, List.setIfInBounds_toArray, List.set_cons_zero, List.set_cons_succ]
  exact anyZ_done (by kernel_rfl) ⟨⟨_, _, _, _, _, _, rfl⟩, rfl⟩ _
end Go.Proofs.Ytkodeopkgmichaa
namespace Go.Proofs.Ytkodeopkgmichaa
open Go.RowKit Go.Shelf
set_option linter.unusedVariables false
set_option linter.unusedSimpArgs false
theorem cs_set4 (c : Rc) : ∀ (L : List Bd) (j : Nat) (s : Bd), L[j]? = some s → (L.set j ⟨s.id, c⟩).flatMap Bd.cs = ((((L.flatMap Bd.cs).set (j * 5 + 1) (.int .i64 c.x)).set (j * 5 + 2) (.int .i64 c.y)).set (j * 5 + 3) (.int .i64 c.a)).set (j * 5 + 4) (.int .i64 c.b)
  | [], j, s, h => by simp at h
  | s0 :: r, 0, s, h => by simp at h; subst h; simp [Bd.cs]
  | s0 :: r, j + 1, s, h => by
    have hj : r[j]? = some s := by simpa using h
    rw [List.set_cons_succ, List.flatMap_cons, cs_set4 c r j s hj, List.flatMap_cons]
    have hs : s0.cs.length = 5 := rfl
    have key : ∀ (R : List Value) (o : Nat) (u : Value), (s0.cs ++ R).set ((j + 1) * 5 + o) u = s0.cs ++ R.set (j * 5 + o) u := fun R o u => by
      rw [List.set_append, if_neg (by omega), hs, show (j + 1) * 5 + o - 5 = j * 5 + o by omega]
    rw [key, key, key, key]
theorem Us.set4 {w : World} {g cap : Nat} {l : List Bd} (h : Us w (.slice (some ⟨g, 0, none⟩) l.length cap) l) {j : Nat} {s : Bd} (hj : l[j]? = some s) (c : Rc) :
    Us ((((w.setCell ⟨g, j * 5 + 1, none⟩ (.int .i64 c.x)).setCell ⟨g, j * 5 + 1 + 1, none⟩ (.int .i64 c.y)).setCell ⟨g, j * 5 + 1 + 2, none⟩ (.int .i64 c.a)).setCell ⟨g, j * 5 + 1 + 3, none⟩ (.int .i64 c.b)) (.slice (some ⟨g, 0, none⟩) l.length cap) (l.set j ⟨s.id, c⟩) := by
  unfold Us
  rw [cs_set4 c l j s hj, List.length_set]
  exact (World.ownsRow.stored (World.ownsRow.stored (World.ownsRow.stored (World.ownsRow.stored h (j * 5 + 1) _).1 (j * 5 + 2) _).1 (j * 5 + 3) _).1 (j * 5 + 4) _).1
theorem Us.thaw {w : World} {g cap : Nat} {l : List Bd} (h : Us w (.slice (some ⟨g, 0, none⟩) l.length cap) l) (o : Nat) : w.frozen? ⟨g, o, none⟩ = false := by
  rcases h.2 with ⟨e, _⟩ | ⟨g', cap', cur, e, hb, hg, r⟩
  · cases e
  · simp only [Value.slice.injEq, Option.some.injEq, Addr.mk.injEq, and_true, true_and] at e
    obtain ⟨rfl, rfl⟩ := e
    simp [World.frozen?, hg]
theorem set_ins (c : Rc) : ∀ {l : List Bd}, Sorted l → ∀ {k : Nat} {t : Bd}, l[k]? = some t → l.set k ⟨t.id, c⟩ = ins (del l t.id) ⟨t.id, c⟩
  | [], _, k, t, h => by simp at h
  | s :: r, hs, 0, t, h => by
    simp at h
    subst h
    obtain ⟨h1, h2⟩ := List.pairwise_cons.1 hs
    have e1 : del (s :: r) s.id = r := by
      unfold del
      rw [List.filter_cons, if_neg (by simp)]
      exact List.filter_eq_self.2 (fun u hu => by have := h1 u hu; simp; omega)
    have e2 : pos r s.id = 0 := by
      unfold pos
      cases r with
      | nil => rfl
      | cons u r' => have := h1 u List.mem_cons_self; simp [List.takeWhile_cons]; omega
    rw [e1, ins, e2]
    rfl
  | s :: r, hs, k + 1, t, h => by
    simp at h
    obtain ⟨h1, h2⟩ := List.pairwise_cons.1 hs
    have hlt := h1 t (List.mem_of_getElem? h)
    have e1 : del (s :: r) t.id = s :: del r t.id := by
      unfold del
      rw [List.filter_cons, if_pos (by simp; omega)]
    have e2 : pos (s :: del r t.id) t.id = pos (del r t.id) t.id + 1 := by
      unfold pos
      rw [List.takeWhile_cons, if_pos (by simpa using hlt)]
      rfl
    rw [e1, ins, e2, List.set_cons_succ, set_ins c h2 h]
    rfl
theorem turns4 (w : World) (g o1 o2 o3 o4 : Nat) (a b c d : Value) : Turns (fun j => j = g) w ((((w.setCell ⟨g, o1, none⟩ a).setCell ⟨g, o2, none⟩ b).setCell ⟨g, o3, none⟩ c).setCell ⟨g, o4, none⟩ d) :=
  (((Turns.set (S := fun j => j = g) w (p := ⟨g, o1, none⟩) rfl a).trans ((Turns.set (S := fun j => j = g) _ (p := ⟨g, o2, none⟩) rfl b).mono (fun _ _ h => .inl h))).trans ((Turns.set (S := fun j => j = g) _ (p := ⟨g, o3, none⟩) rfl c).mono (fun _ _ h => .inl h))).trans ((Turns.set (S := fun j => j = g) _ (p := ⟨g, o4, none⟩) rfl d).mono (fun _ _ h => .inl h))
set_option maxRecDepth 100000 in
set_option maxHeartbeats 4000000 in
theorem refmove_yes (r : Nat) (v : Value) (l : List Bd) (i x y : Int) (c : Rc) (w : World) (h : Rx w r v l) (hv : v.ownBlock ≠ some r) (hs : Sorted l) (hl : l.length ≤ 256) (hg : gOf l i = some c) (hm : may x y c.a c.b = true) (hf : freeR l i x y c.a c.b = true) :
    Calls Try.prog 24 #[ptr r, .int .i64 i, cel x y] w fun e w' => e = .returned (.int .i64 0) ∧ Rt w r v (ins (del l i) ⟨i, ⟨x, y, c.a, c.b⟩⟩) w' := by
  obtain ⟨a, cap, rfl, hcp, hcm, hat⟩ := h.us.form
  have hR := h.rxr hl
  obtain ⟨X, hX⟩ : ∃ X, w.alloc (.cells #[.int .i64 x, .int .i64 y] 32) = X := ⟨_, rfl⟩
  have B0 : Below w.heap.size w X := hX ▸ box1 _ _
  have z0 : X.heap.size = w.heap.size + 1 := by rw [← hX]; simp
  have x0 : X.cell? ⟨w.heap.size, 0, none⟩ = some (.int .i64 x) := by rw [← hX, cell_of_row _ w.heap.size 0 _ _ _ (heap_alloc_new w _)]; rfl
  have x1 : X.cell? ⟨w.heap.size, 1, none⟩ = some (.int .i64 y) := by rw [← hX, cell_of_row _ w.heap.size 1 _ _ _ (heap_alloc_new w _)]; rfl
  have h0 := hR.kept B0
  have HP := hide (place_any r a cap l i X h0)
  go_enter Try.func24, Try.ntmps24
  go_wp2_with (rw [hX])
  refine HP.out.mono ?_
  rintro e w1 ⟨z, rfl, hw1, (⟨rfl, hno⟩ | ⟨k, t, rfl, hk, rfl⟩)⟩
  · rw [hno] at hg; cases hg
  subst hw1
  have htr : t.r = c := by have := gOf_mem hs (List.mem_of_getElem? hk); rw [hg] at this; cases this; rfl
  have hkl : k < l.length := (List.getElem?_eq_some_iff.1 hk).1
  obtain ⟨g, rfl, hgl, -, -, -, -, -⟩ := hat k t hk
  obtain ⟨g', o', e', hgl', d0, d1, d2, d3, d4⟩ := h0.2.2.2 k t hk
  cases e'
  simp only [Nat.zero_add] at d0 d1 d2 d3 d4
  rw [htr] at d1 d2 d3 d4
  have cL := h0.1
  have hki : (0 : Int) ≤ (k : Nat) ∧ (k : Int) < (l.length : Nat) ∧ (l.length : Int) ≤ 256 := by omega
  have hd0 : decide ((k : Int) < 0) = false := by simp
  clear HP hX
  go_wp2_with fail
  obtain ⟨X2, hX2⟩ : ∃ X2, w1.alloc (.cells #[.int .i64 x, .int .i64 y, .int .i64 c.a, .int .i64 c.b] 34) = X2 := ⟨_, rfl⟩
  have B2 : Below w1.heap.size w1 X2 := hX2 ▸ box1 _ _
  have F2 : Four X2 (w.heap.size + 1) x y c.a c.b := by rw [← z0]; exact hX2 ▸ cells4 (Below.refl _ _)
  rw [hX2]
  refine (refmay_is _ hm).mono ?_
  rintro e w2 ⟨rfl, hb2⟩
  have F3 := F2.kept hb2
  obtain ⟨⟨k0, k1, k2, k3⟩, -, -⟩ := id F3
  have h2 := h0.kept (bt B2 hb2)
  have HFr := hide (refree_any r (some ⟨g, 0, none⟩) cap l t.id x y c.a c.b w2 h2)
  rw [hf] at HFr
  have B3 := bt B0 (bt B2 hb2)
  clear hb2 hX2 F2 h2 cL d0 d1 d2 d3 d4 x0 x1
  go_wp2_with fail
  refine HFr.out.mono ?_
  rintro e w3 ⟨rfl, hb3⟩
  have F4 := F3.kept hb3
  have B4 := bt B3 hb3
  have hR3 := h.kept B4
  have cL3 := hR3.c
  have hz3 : w.heap.size + 1 < w3.heap.size := F4.2.2
  have B5 : Below w.heap.size w (w3.alloc (.cells #[] 58)) := bt B4 (box1 _ _)
  have hR5 := h.kept B5
  have cL5 := hR5.c
  have U0 : Us (w3.alloc (.cells #[] 58)) (.slice (some ⟨w3.heap.size, 0, none⟩) 0 0) [] := ⟨rfl, .inr ⟨_, 0, #[], rfl, Nat.zero_le _, heap_alloc_new w3 _, Nat.le_refl _, by decide, rfl, rfl⟩⟩
  have hcell : ∀ j u, (l.flatMap Bd.cs)[j]? = some u → (w3.alloc (.cells #[] 58)).cell? ((⟨g, 0, none⟩ : Addr).add j) = some u := fun j u hu => by
    have := World.ownsRow.cells hR5.us (g := g) rfl j u hu
    simpa using this
  obtain ⟨v1, w4, r1, u1, g1, o1⟩ := U0.app l ⟨g, 0, none⟩ cap hcell (by simp; omega)
  rw [List.nil_append] at u1
  obtain ⟨a1, cap1, rfl, hcp1, hcm1, hat1⟩ := u1.form
  obtain ⟨g1', rfl, hgl1, -, -, -, -, -⟩ := hat1 k t hk
  rename_i gg
  have T1 : Turns (fun j => j = w3.heap.size) (w3.alloc (.cells #[] 58)) w4 := Turns.of_grown g1 (fun j e => by simp [Value.ownBlock] at e; omega)
  have B6 : Below w.heap.size w w4 := B5.trans (T1.below (fun j e => by have := B4.size; omega) B5.size)
  have hg1 : w3.heap.size ≤ g1' := by
    rcases o1 with q | ⟨j', q, hj⟩
    · simp [Value.ownBlock] at q; omega
    · simp [Value.ownBlock] at q; simp at hj; omega
  have hR6 := h.kept B6
  have cL6 := hR6.c
  have fL6 : w4.frozen? ⟨r, 0, none⟩ = false := Boxed.frozen hR6.blk
  have hrl := h.lt
  have hws := B4.size
  have F6 : Four w4 (w.heap.size + 1) x y c.a c.b := F4.turned (S := fun j => j = w3.heap.size) ((Turns.of_below (box1 w3 _)).trans (T1.mono (fun j _ e => .inl e))) (by omega)
  obtain ⟨w5, hw5⟩ : ∃ w5, w4.setCell ⟨r, 0, none⟩ (.slice (some ⟨g1', 0, none⟩) l.length cap1) = w5 := ⟨_, rfl⟩
  have T5 : Turns (fun j => j = r) w4 w5 := hw5 ▸ Turns.set (S := fun j => j = r) _ rfl _
  have F7 : Four w5 (w.heap.size + 1) x y c.a c.b := F6.turned T5 (by omega)
  have b5 : w5.heap[r]? = some (.cells #[.slice (some ⟨g1', 0, none⟩) l.length cap1] 29 (0, 0)) := hw5 ▸ Boxed.set _ hR6.blk
  have u5 : Us w5 (.slice (some ⟨g1', 0, none⟩) l.length cap1) l := row_kept u1 T5 (fun j e q => by simp [Value.ownBlock] at e; omega)
  have hT5 : Turns (fun j => j = r) w w5 := (Turns.of_below B6).trans (T5.mono (fun j _ e => .inl e))
  have hz5 : w.heap.size ≤ w5.heap.size := by have := hT5.size; omega
  have HEnd : Hid (Rt w r (.slice (some ⟨g, 0, none⟩) l.length cap) (ins (del l t.id) ⟨t.id, ⟨x, y, c.a, c.b⟩⟩) ((((w5.drew.setCell ⟨g1', k * 5 + 1, none⟩ (.int .i64 x)).setCell ⟨g1', k * 5 + 1 + 1, none⟩ (.int .i64 y)).setCell ⟨g1', k * 5 + 1 + 2, none⟩ (.int .i64 c.a)).setCell ⟨g1', k * 5 + 1 + 3, none⟩ (.int .i64 c.b))) := hide (by
    have tt := turns4 w5.drew g1' (k * 5 + 1) (k * 5 + 1 + 1) (k * 5 + 1 + 2) (k * 5 + 1 + 3) (.int .i64 x) (.int .i64 y) (.int .i64 c.a) (.int .i64 c.b)
    refine ⟨.slice (some ⟨g1', 0, none⟩) l.length cap1, ⟨tt.same (S := fun j => j = g1') (by omega) b5, ?_⟩, hT5.drew.trans (tt.mono (fun j hj e => by subst e; omega)), fun j e => .inr (by simp [Value.ownBlock] at e; omega), fun e => by simp [Value.ownBlock] at e; omega⟩
    rw [← set_ins ⟨x, y, c.a, c.b⟩ hs hk]
    exact (show Us w5.drew _ l from u5).set4 hk ⟨x, y, c.a, c.b⟩)
  have hSS : (fun W : World => W.cell? ⟨r, 0, none⟩ = some (.slice (some ⟨g1', 0, none⟩) l.length cap1) ∧ W.cell? ⟨w.heap.size + 1, 0, none⟩ = some (.int .i64 x) ∧ W.cell? ⟨w.heap.size + 1, 1, none⟩ = some (.int .i64 y) ∧ W.cell? ⟨w.heap.size + 1, 2, none⟩ = some (.int .i64 c.a) ∧ W.cell? ⟨w.heap.size + 1, 3, none⟩ = some (.int .i64 c.b)) w5.drew := ⟨cell_of_row _ r 0 _ _ _ b5, F7.1.1, F7.1.2.1, F7.1.2.2.1, F7.1.2.2.2⟩
  obtain ⟨a5, cap5, e5, -, -, hat5⟩ := u5.form
  cases e5
  obtain ⟨g5, e5, hgl5, e0, e1, e2, e3, e4⟩ := hat5 k t hk
  cases e5
  have hfz : ∀ f, w5.drew.frozen? ⟨g1', f, none⟩ = false := fun f => u5.thaw f
  have HA := hide r1
  have HW5 := hide hw5
  clear HFr hb3 F3 F4 F6 F7 B0 B2 B3 B4 B5 B6 hR3 hR5 hR6 U0 u1 g1 o1 T1 T5 b5 u5 hT5 r1 hat hat1 hat5 k0 k1 k2 k3 h hw5 hcell h0 hR
  go_wp2_with (first | rw [HW5.out] | (at_builtin; refine wpList_append_run rfl _ _ 27 rfl _ _ rfl rfl HA.out ?_))
  refine wp_region_z (fun W : World => W.cell? ⟨r, 0, none⟩ = some (.slice (some ⟨g1', 0, none⟩) l.length cap1) ∧ W.cell? ⟨w.heap.size + 1, 0, none⟩ = some (.int .i64 x) ∧ W.cell? ⟨w.heap.size + 1, 1, none⟩ = some (.int .i64 y) ∧ W.cell? ⟨w.heap.size + 1, 2, none⟩ = some (.int .i64 c.a) ∧ W.cell? ⟨w.heap.size + 1, 3, none⟩ = some (.int .i64 c.b)) 8 (by kernel_rfl) ?_
  refine anyZ_take 0 8 (v := ptr r) rfl (by kernel_rfl) (fun _ _ _ h => h) (Or.inl ⟨by rfl, fun wx hx => run_mv (by rfl) (by rfl)⟩) hSS ?_
  try simp only [Act.put, List.getElem_toArray, List.getElem_cons_zero, List.getElem_cons_succ, List.setIfInBounds_toArray, List.set_cons_zero, List.set_cons_succ]
  refine anyZ_take 1 8 (v := ptr r) rfl (by kernel_rfl) (fun _ _ _ h => h) (Or.inl ⟨by rfl, fun wx hx => run_nc (by rfl) (by rfl)⟩) hSS ?_
  try simp only [Act.put, List.getElem_toArray, List.getElem_cons_zero, List.getElem_cons_succ, List.setIfInBounds_toArray, List.set_cons_zero, List.set_cons_succ]
  refine anyZ_take 2 8 (v := ptr r) rfl (by kernel_rfl) (fun _ _ _ h => h) (Or.inl ⟨by rfl, fun wx hx => run_l (by rfl) (by rfl)⟩) hSS ?_
  try simp only [Act.put, List.getElem_toArray, List.getElem_cons_zero, List.getElem_cons_succ, List.setIfInBounds_toArray, List.set_cons_zero, List.set_cons_succ]
  refine anyZ_take 3 8 (v := (.slice (some ⟨g1', 0, none⟩) l.length cap1)) rfl (by kernel_rfl) (fun _ _ _ h => h) (Or.inl ⟨by rfl, fun wx hx => run_load (by rfl) (by rfl) hx.1⟩) hSS ?_
  try simp only [Act.put, List.getElem_toArray, List.getElem_cons_zero, List.getElem_cons_succ, List.setIfInBounds_toArray, List.set_cons_zero, List.set_cons_succ]
  refine anyZ_take 4 8 (v := .int .i64 (k : Nat)) rfl (by kernel_rfl) (fun _ _ _ h => h) (Or.inl ⟨by rfl, fun wx hx => run_mv (by rfl) (by rfl)⟩) hSS ?_
  try simp only [Act.put, List.getElem_toArray, List.getElem_cons_zero, List.getElem_cons_succ, List.setIfInBounds_toArray, List.set_cons_zero, List.set_cons_succ]
  refine anyZ_take 5 8 (v := .agg #[.int .i64 x, .int .i64 y, .int .i64 c.a, .int .i64 c.b]) rfl (by kernel_rfl) (fun _ _ _ h => h) (Or.inl ⟨by rfl, fun wx hx => run_rect (by rfl) (by rfl) hx.2.1 hx.2.2.1 hx.2.2.2.1 hx.2.2.2.2⟩) hSS ?_
  try simp only [Act.put, List.getElem_toArray, List.getElem_cons_zero, List.getElem_cons_succ, List.setIfInBounds_toArray, List.set_cons_zero, List.set_cons_succ]
  refine anyZ_take 6 8 (v := .pointer (some ⟨g1', k * 5, none⟩)) rfl (by kernel_rfl) (fun _ _ _ h => h) (Or.inl ⟨by rfl, fun wx hx => run_idx (by rfl) (by rfl) (by rfl) hkl⟩) hSS ?_
  try simp only [Act.put, List.getElem_toArray, List.getElem_cons_zero, List.getElem_cons_succ, List.setIfInBounds_toArray, List.set_cons_zero, List.set_cons_succ]
  refine anyZ_take 7 8 (v := .pointer (some ⟨g1', k * 5 + 1, none⟩)) rfl (by kernel_rfl) (fun _ _ _ h => h) (Or.inl ⟨by rfl, fun wx hx => run_r (by rfl) (by rfl)⟩) hSS ?_
  try simp only [Act.put, List.getElem_toArray, List.getElem_cons_zero, List.getElem_cons_succ, List.setIfInBounds_toArray, List.set_cons_zero, List.set_cons_succ]
  refine anyZ_ready (rs := [8]) (by kernel_rfl) (by simp) ?_
  refine readyZ.skip rfl rfl (run_lay (by rfl) (by rfl) (by rfl) e1 e2 e3 e4 hfz) (fun h => absurd rfl h) ?_ readyZ.nil
  try simp only [Act.put, List.getElem_toArray, List.getElem_cons_zero, List.getElem_cons_succ, List.setIfInBounds_toArray, List.set_cons_zero, List.set_cons_succ]
  refine anyZ_done (by kernel_rfl) ?_ _
  go_wp2_with fail
  go_ret
  exact ⟨rfl, HEnd.out⟩
end Go.Proofs.Ytkodeopkgmichaa
namespace Go.Proofs.Ytkodeopkgmichaa
open Go.RowKit Go.Shelf
set_option linter.unusedVariables false
set_option linter.unusedSimpArgs false
def loV (v : Value) (k : Nat) : Value := match v with
  | .slice (some ad) n cap => .slice (some ad) k cap
  | v => v
def hiV (v : Value) (k : Nat) : Value := match v with
  | .slice (some ad) n cap => .slice (some (if cap = k then ad else ⟨ad.block, k * 5, none⟩)) (n - k) (cap - k)
  | v => v
theorem Us.parts {w : World} {v : Value} {l : List Bd} (h : Us w v l) : (v = .slice none 0 0 ∧ l = []) ∨ ∃ g cap, v = .slice (some ⟨g, 0, none⟩) l.length cap ∧ l.length ≤ cap ∧ cap ≤ maxLen := by
  rcases h.2 with ⟨e, h0⟩ | ⟨g, cap, cur, e, hb, hg, hn, hm, hs, ht⟩
  · exact .inl ⟨e, List.eq_nil_of_length_eq_zero h0⟩
  · exact .inr ⟨g, cap, e, hn, hm⟩
theorem run_lo {W : World} {v : Value} {l : List Bd} (h : Us W v l) {ev : Operand → Value} {o : Oper} {w : World} {x t : Operand} {k : Nat} (ho : o.op = .slice 27 x none (some t) none) (hx : ev x = v) (ht : ev t = .int .i64 k) (hk : k ≤ l.length) :
    (execOp ev o).run Try.prog w = .ok (.value (loV v k)) w := by
  rcases h.parts with ⟨rfl, rfl⟩ | ⟨g, cap, rfl, h1, h2⟩
  · obtain rfl : k = 0 := by simpa using hk
    unfold execOp
    rw [ho]
    simp only [hx, ht]
    go_simp
    rfl
  · exact run_below ho hx ht (by omega) h2
theorem run_hi {W : World} {v : Value} {l : List Bd} (h : Us W v l) {ev : Operand → Value} {o : Oper} {w : World} {x t : Operand} {k : Nat} (ho : o.op = .slice 27 x (some t) none none) (hx : ev x = v) (ht : ev t = .int .i64 k) (hk : k ≤ l.length) :
    (execOp ev o).run Try.prog w = .ok (.value (hiV v k)) w := by
  rcases h.parts with ⟨rfl, rfl⟩ | ⟨g, cap, rfl, h1, h2⟩
  · obtain rfl : k = 0 := by simpa using hk
    unfold execOp
    rw [ho]
    simp only [hx, ht]
    go_simp
    rfl
  · exact run_beyond ho hx ht rfl hk h1 h2
theorem app_none {W : World} {u : Value} {L : List Bd} (U : Us W u L) : (Builtin.append_ #[27, 27] 27 #[u, .slice none 0 0]).run Try.prog W = .ok u W := by
  rcases U.parts with ⟨rfl, rfl⟩ | ⟨g, cap, rfl, h1, h2⟩
  · go_simp
  · have h3 : (L.length : Int) ≤ (cap : Nat) := by omega
    go_simp
theorem grown_refl (w : World) (r : Option Nat) : w.grownBy w r := ⟨rfl, rfl, rfl, Nat.le_refl _, fun _ _ _ => rfl⟩
theorem app_lo {W : World} {v u : Value} {l L : List Bd} (h : Us W v l) (U : Us W u L) (k : Nat) (hk : k ≤ l.length) (hn : L.length + l.length ≤ 1000) :
    ∃ v' W', (Builtin.append_ #[27, 27] 27 #[u, loV v k]).run Try.prog W = .ok v' W' ∧ Us W' v' (L ++ l.take k) ∧ W.grownBy W' u.ownBlock ∧ (v'.ownBlock = u.ownBlock ∨ ∃ j, v'.ownBlock = some j ∧ W.heap.size ≤ j) := by
  rcases h.parts with ⟨rfl, rfl⟩ | ⟨g, cap, rfl, h1, h2⟩
  · exact ⟨u, W, app_none U, by simpa using U, grown_refl _ _, .inl rfl⟩
  · have hl : (l.take k).length = k := by simp; omega
    obtain ⟨v', W', q1, q2, q3, q4⟩ := U.app (l.take k) ⟨g, 0, none⟩ cap (h.take_cells k) (by omega)
    rw [hl] at q1
    exact ⟨v', W', q1, q2, q3, q4⟩
theorem app_hi {W : World} {v u : Value} {l L : List Bd} (h : Us W v l) (U : Us W u L) (k : Nat) (hk : k ≤ l.length) (hn : L.length + l.length ≤ 1000) :
    ∃ v' W', (Builtin.append_ #[27, 27] 27 #[u, hiV v k]).run Try.prog W = .ok v' W' ∧ Us W' v' (L ++ l.drop k) ∧ W.grownBy W' u.ownBlock ∧ (v'.ownBlock = u.ownBlock ∨ ∃ j, v'.ownBlock = some j ∧ W.heap.size ≤ j) := by
  rcases h.parts with ⟨rfl, rfl⟩ | ⟨g, cap, rfl, h1, h2⟩
  · exact ⟨u, W, app_none U, by simpa using U, grown_refl _ _, .inl rfl⟩
  · have hl : (l.drop k).length = l.length - k := by simp
    obtain ⟨v', W', q1, q2, q3, q4⟩ := U.app (l.drop k) (if cap = k then ⟨g, 0, none⟩ else ⟨g, k * 5, none⟩) (cap - k) (fun j u hu => by
      split
      · rw [List.drop_eq_nil_of_le (by omega)] at hu
        simp at hu
      · exact h.drop_cells k j u hu) (by omega)
    rw [hl] at q1
    exact ⟨v', W', q1, q2, q3, q4⟩
/-- A row in memory from block B on. -/
def Ownd (B : Nat) (v : Value) : Prop := ∀ j, v.ownBlock = some j → B ≤ j
/-- What the worlds of the document's Put keep: W0 as it was. -/
structure Pw (W0 W : World) (v : Value) (L : List Bd) : Prop where
  below : Below W0.heap.size W0 W
  us : Us W v L
  own : Ownd W0.heap.size v
theorem Pw.step {W0 W W' : World} {v v' : Value} {L L' : List Bd} (h : Pw W0 W v L) (U : Us W' v' L') (hg : W.grownBy W' v.ownBlock) (ho : v'.ownBlock = v.ownBlock ∨ ∃ j, v'.ownBlock = some j ∧ W.heap.size ≤ j) : Pw W0 W' v' L' :=
  ⟨h.below.trans ((Turns.of_grown (S := fun j => v.ownBlock = some j) hg (fun j e => e)).below (fun j e => h.own j e) h.below.size), U, fun j e => by
    rcases ho with q | ⟨j', q, hj⟩
    · exact h.own j (q ▸ e)
    · rw [q] at e; cases e; have := h.below.size; omega⟩
theorem Pw.alloc {W0 W : World} {v : Value} {L : List Bd} (h : Pw W0 W v L) (o : Obj) : Pw W0 (W.alloc o) v L :=
  ⟨h.below.trans ((box1 W o).mono h.below.size), World.ownsRow.alloc h.us o, h.own⟩
theorem Pw.empty {W0 W : World} (h : Below W0.heap.size W0 W) : Pw W0 (W.alloc (.cells #[] 58)) (.slice (some ⟨W.heap.size, 0, none⟩) 0 0) [] :=
  ⟨h.trans ((box1 W _).mono h.size), ⟨rfl, .inr ⟨_, 0, #[], rfl, Nat.zero_le _, heap_alloc_new W _, Nat.le_refl _, by decide, rfl, rfl⟩⟩, fun j e => by simp [Value.ownBlock] at e; have := h.size; omega⟩
/-- One unit in a block of its own. -/
def Lone (W : World) (s : Nat) (t : Bd) : Prop := W.heap[s]? = some (.cells #[.int .i64 t.id, .int .i64 t.r.x, .int .i64 t.r.y, .int .i64 t.r.a, .int .i64 t.r.b] 58)
theorem Lone.cells {W : World} {s : Nat} {t : Bd} (h : Lone W s t) : ∀ j u, (([t] : List Bd).flatMap Bd.cs)[j]? = some u → W.cell? ((⟨s, 0, none⟩ : Addr).add j) = some u := fun j u hu => by
  rw [Addr.add_lit, Nat.zero_add, cell_of_row _ s j _ _ _ h]
  simpa [Bd.cs] using hu
theorem Lone.new (W : World) (t : Bd) : Lone (W.alloc (.cells #[.int .i64 t.id, .int .i64 t.r.x, .int .i64 t.r.y, .int .i64 t.r.a, .int .i64 t.r.b] 58)) W.heap.size t := heap_alloc_new W _
theorem Lone.alloc {W : World} {s : Nat} {t : Bd} (h : Lone W s t) (o : Obj) : Lone (W.alloc o) s t := by
  have hb := (box1 W o).block s (Array.getElem?_eq_some_iff.1 h).1
  exact hb.trans h
theorem Lone.grown {W W' : World} {s : Nat} {t : Bd} (h : Lone W s t) {row : Option Nat} (hg : W.grownBy W' row) (hr : row ≠ some s) : Lone W' s t :=
  (hg.block s (Array.getElem?_eq_some_iff.1 h).1 (fun e => hr e.symm)).trans h
/-- What the last two appends and the store give. -/
theorem put_tail {W0 W : World} {r : Nat} {v u : Value} {l : List Bd} {k s : Nat} {t : Bd} (hR : Rx W0 r v l) (h : Pw W0 W u (l.take k)) (hs : Lone W s t) (hk : k ≤ l.length) (hl : l.length < 256) :
    ∃ v2 W2 v3 W3, (Builtin.append_ #[27, 27] 27 #[u, .slice (some ⟨s, 0, none⟩) 1 1]).run Try.prog W = .ok v2 W2 ∧ (Builtin.append_ #[27, 27] 27 #[v2, hiV v k]).run Try.prog W2 = .ok v3 W3 ∧ W2.cell? ⟨r, 0, none⟩ = some v ∧ W3.cell? ⟨r, 0, none⟩ = some v ∧ Below W0.heap.size W0 W2 ∧ Below W0.heap.size W0 W3 ∧
      W3.frozen? ⟨r, 0, none⟩ = false ∧ (∃ a n c, v3 = .slice a n c) ∧ Rt W0 r v (l.take k ++ t :: l.drop k) (W3.setCell ⟨r, 0, none⟩ v3) := by
  have ht : (l.take k).length ≤ 256 := by simp; omega
  obtain ⟨v2, W2, r2, u2, g2, o2⟩ := h.us.app [t] ⟨s, 0, none⟩ 1 hs.cells (by simp; omega)
  have p2 := h.step u2 g2 o2
  have hR2 := hR.kept p2.below
  obtain ⟨v3, W3, r3, u3, g3, o3⟩ := app_hi hR2.us p2.us k hk (by simp; omega)
  have p3 := p2.step u3 g3 o3
  have hR3 := hR.kept p3.below
  have hrl := hR.lt
  have T3 : Turns (fun j => j = r) W3 (W3.setCell ⟨r, 0, none⟩ v3) := Turns.set (S := fun j => j = r) _ rfl _
  refine ⟨v2, W2, v3, W3, r2, r3, hR2.c, hR3.c, p2.below, p3.below, Boxed.frozen hR3.blk, ?_, v3, ⟨Boxed.set v3 hR3.blk, ?_⟩, (Turns.of_below p3.below).trans (T3.mono (fun j _ e => .inl e)), fun j e => .inr (p3.own j e), fun e => by have := p3.own r e; omega⟩
  · obtain ⟨a3, c3, e3, -, -, -⟩ := u3.form
    exact ⟨_, _, _, e3⟩
  · have := row_kept u3 T3 (fun j e q => by have := p3.own j e; omega)
    simpa [Us] using this
end Go.Proofs.Ytkodeopkgmichaa
namespace Go.Proofs.Ytkodeopkgmichaa
open Go.RowKit Go.Shelf
set_option linter.unusedVariables false
set_option linter.unusedSimpArgs false
theorem Rt.from {w W w' : World} {r : Nat} {v : Value} {l l' : List Bd} (h : Rt W r v l w') (hB : Below w.heap.size w W) (e : l = l') : Rt w r v l' w' := by
  subst e
  obtain ⟨v', h1, h2, h3, h4⟩ := h
  exact ⟨v', h1, (Turns.of_below hB).trans (h2.mono (fun j _ e => .inl e)), fun k e => (h3 k e).imp id (fun q => Nat.le_trans hB.size q), h4⟩
set_option maxRecDepth 100000 in
set_option maxHeartbeats 8000000 in
theorem refput_yes (r : Nat) (v : Value) (l : List Bd) (i x y a b : Int) (w : World) (h : Rx w r v l) (hv : v.ownBlock ≠ some r) (hs : Sorted l) (hl : l.length < 256) (hm : may x y a b = true) (hsm : sm a b = true) (hg : gOf l i = none) (hany : anyR l x y a b = false) :
    Calls Try.prog 26 #[ptr r, .int .i64 i, rct x y a b] w fun e w' => e = .returned (.int .i64 0) ∧ Rt w r v (ins l ⟨i, ⟨x, y, a, b⟩⟩) w' := by
  obtain ⟨av, cap, rfl, hcp, hcm, hat⟩ := h.us.form
  have hR := h.rxr (by omega)
  obtain ⟨X, hX⟩ : ∃ X, w.alloc (.cells #[.int .i64 x, .int .i64 y, .int .i64 a, .int .i64 b] 34) = X := ⟨_, rfl⟩
  have B0 : Below w.heap.size w X := hX ▸ box1 _ _
  have F0 : Four X w.heap.size x y a b := hX ▸ cells4 (Below.refl _ _)
  obtain ⟨⟨k0, k1, k2, k3⟩, -, -⟩ := id F0
  have HMy := hide (fun wx => refmay_is (x := x) (y := y) (a := a) (b := b) wx hm)
  simp only [sm, Bool.and_eq_true, decide_eq_true_eq] at hsm
  have ha1 : decide (4 < a) = false := decide_eq_false (by omega)
  have hb1 : decide (4 < b) = false := decide_eq_false (by omega)
  have ha2 : ¬ 4 < a := by omega
  have hb2 : ¬ 4 < b := by omega
  go_enter Try.func26, Try.ntmps26
  go_wp2_with (rw [hX])
  refine (HMy.out _).mono ?_
  rintro e w1 ⟨rfl, hw1⟩
  have F1 := F0.kept hw1
  have h1 := hR.kept (bt B0 hw1)
  have B1 := bt B0 hw1
  have HP := hide (place_any r av cap l i w1 h1)
  have HA := hide (anybody_any r av cap l x y a b w1 h1)
  have cL := h1.1
  have hlI : (0 : Int) ≤ (l.length : Nat) ∧ ((l.length : Nat) : Int) ≤ 255 := by omega
  have h3' : ¬ (256 : Int) ≤ (l.length : Nat) := by omega
  obtain ⟨⟨q0, q1, q2, q3⟩, -, -⟩ := id F1
  rw [hany] at HA
  clear hw1 hX k0 k1 k2 k3 h1
  go_wp2_with fail
  refine HP.out.mono ?_
  rintro e w2 ⟨z, rfl, hw2, (⟨rfl, hno⟩ | ⟨k, t, rfl, hk, rfl⟩)⟩
  rotate_left
  · exact absurd rfl (gOf_none.1 hg t (List.mem_of_getElem? hk))
  subst hw2
  have hd0 : decide ((0 : Int) ≤ -1) = false := by decide
  go_wp2_with fail
  refine HA.out.mono ?_
  rintro e Z ⟨rfl, hb3⟩
  have FZ := F1.kept hb3
  have hBZ := bt B1 hb3
  have hRZ := h.kept hBZ
  have HK := hide (hR.kept hBZ)
  have cZ := hRZ.c
  clear HA HP hb3 F0 F1 B0 B1 HMy cL q0 q1 q2 q3 h hat hR hno
  go_wp2_with fail
  go_loopw [7] (fun d wr => ∃ k : Nat, k ≤ pos l i ∧ d = .int .i64 k ∧ wr = Z) (fun d _ => l.length - (intOf d).toNat)
  case atStart => exact ⟨0, Nat.zero_le _, rfl, by first | rfl | trivial⟩
  case round =>
    obtain ⟨k, hkp, rfl, hwz⟩ := hrel
    have hwz2 := hwz.symm
    clear hwz
    subst hwz2
    have hpl := pos_le l i
    have hkl : k ≤ l.length := by omega
    by_cases hlt : k < l.length
    · obtain ⟨t, ht⟩ : ∃ t, l[k]? = some t := ⟨_, List.getElem?_eq_getElem hlt⟩
      obtain ⟨g, o, rfl, hgl, d0, -, -, -, -⟩ := HK.out.2.2.2 k t ht
      have hki : (k : Int) < (l.length : Nat) := by omega
      have hk0 : (0 : Int) ≤ (k : Nat) := by omega
      by_cases hid : t.id < i
      · have hd : decide (t.id < i) = true := by simpa using hid
        have hk2 := (pos_iff hs i k t ht).1 hid
        go_wp2_with fail
        go_roundw
        case rel => exact ⟨k + 1, by omega, by go_num, by first | rfl | trivial⟩
        case measure => simp [intOf]; omega
      · have hd : decide (t.id < i) = false := by simpa using hid
        have hkq : k = pos l i := by
          have := mt (pos_iff hs i k t ht).2 hid
          omega
        have hinsk : l.take k ++ (⟨i, ⟨x, y, a, b⟩⟩ : Bd) :: l.drop k = ins l ⟨i, ⟨x, y, a, b⟩⟩ := by rw [hkq]; rfl
        clear hkq
        go_wp2_with fail
        have hRd : Rx Z.drew r (.slice (some ⟨g, o, none⟩) l.length cap) l := ⟨hRZ.blk, hRZ.us⟩
        have hBd : Below w.heap.size w Z.drew := hBZ.drew
        have hSof : Hid (∀ Y : World, Below Z.drew.heap.size Z.drew Y → Y.cell? ⟨r, 0, none⟩ = some (.slice (some ⟨g, o, none⟩) l.length cap) ∧ Y.cell? ⟨w.heap.size, 0, none⟩ = some (.int .i64 x) ∧ Y.cell? ⟨w.heap.size, 1, none⟩ = some (.int .i64 y) ∧ Y.cell? ⟨w.heap.size, 2, none⟩ = some (.int .i64 a) ∧ Y.cell? ⟨w.heap.size, 3, none⟩ = some (.int .i64 b)) := hide (fun Y hY => by
          obtain ⟨⟨f0, f1, f2, f3⟩, -, -⟩ := (show Four Z.drew w.heap.size x y a b from FZ).kept hY
          exact ⟨(hRd.kept hY).c, f0, f1, f2, f3⟩)
        have E1 := Pw.empty (Below.refl Z.drew.heap.size Z.drew)
        obtain ⟨vA, WA, rA, uA, gA, oA⟩ := app_lo (hRd.kept E1.below).us E1.us k hkl (by simp; omega)
        have pA := E1.step uA gA oA
        rw [List.nil_append] at pA
        have pA2 := pA.alloc (.cells #[.int .i64 i, .int .i64 x, .int .i64 y, .int .i64 a, .int .i64 b] 58)
        obtain ⟨v2A, W2A, v3A, W3A, q1A, q2A, -, -, q3A, q4A, q5A, q6A, q7A⟩ := put_tail (t := ⟨i, ⟨x, y, a, b⟩⟩) hRd pA2 (Lone.new WA ⟨i, ⟨x, y, a, b⟩⟩) hkl hl
        have TA : Hid (Rt w r (.slice (some ⟨g, o, none⟩) l.length cap) (ins l ⟨i, ⟨x, y, a, b⟩⟩) ((W3A).setCell ⟨r, 0, none⟩ v3A) ∧ ((Builtin.append_ #[27, 27] 27 #[vA, .slice (some ⟨WA.heap.size, 0, none⟩) 1 1]).run Try.prog (WA.alloc (.cells #[.int .i64 i, .int .i64 x, .int .i64 y, .int .i64 a, .int .i64 b] 58)) = .ok v2A W2A ∧ (Builtin.append_ #[27, 27] 27 #[v2A, hiV (.slice (some ⟨g, o, none⟩) l.length cap) k]).run Try.prog W2A = .ok v3A W3A) ∧ Below Z.drew.heap.size Z.drew W2A ∧ Below Z.drew.heap.size Z.drew W3A ∧ (W3A).frozen? ⟨r, 0, none⟩ = false ∧ ∃ q n c, v3A = .slice q n c) := hide ⟨q7A.from hBd hinsk, ⟨q1A, q2A⟩, q3A, q4A, q5A, q6A⟩
        have E2 := E1.alloc (.cells #[.int .i64 i, .int .i64 x, .int .i64 y, .int .i64 a, .int .i64 b] 58)
        obtain ⟨vB, WB, rB, uB, gB, oB⟩ := app_lo (hRd.kept E2.below).us E2.us k hkl (by simp; omega)
        have pB := E2.step uB gB oB
        rw [List.nil_append] at pB
        obtain ⟨v2B, W2B, v3B, W3B, q1B, q2B, -, -, q3B, q4B, q5B, q6B, q7B⟩ := put_tail (t := ⟨i, ⟨x, y, a, b⟩⟩) hRd pB ((Lone.new (Z.drew.alloc (.cells #[] 58)) ⟨i, ⟨x, y, a, b⟩⟩).grown gB (by simp [Value.ownBlock])) hkl hl
        have TB : Hid (Rt w r (.slice (some ⟨g, o, none⟩) l.length cap) (ins l ⟨i, ⟨x, y, a, b⟩⟩) ((W3B).setCell ⟨r, 0, none⟩ v3B) ∧ ((Builtin.append_ #[27, 27] 27 #[vB, .slice (some ⟨(Z.drew.alloc (.cells #[] 58)).heap.size, 0, none⟩) 1 1]).run Try.prog WB = .ok v2B W2B ∧ (Builtin.append_ #[27, 27] 27 #[v2B, hiV (.slice (some ⟨g, o, none⟩) l.length cap) k]).run Try.prog W2B = .ok v3B W3B) ∧ Below Z.drew.heap.size Z.drew W2B ∧ Below Z.drew.heap.size Z.drew W3B ∧ (W3B).frozen? ⟨r, 0, none⟩ = false ∧ ∃ q n c, v3B = .slice q n c) := hide ⟨q7B.from hBd hinsk, ⟨q1B, q2B⟩, q3B, q4B, q5B, q6B⟩
        have B2 : Below Z.drew.heap.size Z.drew (Z.drew.alloc (.cells #[.int .i64 i, .int .i64 x, .int .i64 y, .int .i64 a, .int .i64 b] 58)) := box1 _ _
        have E3 := Pw.empty B2
        obtain ⟨vC, WC, rC, uC, gC, oC⟩ := app_lo (hRd.kept E3.below).us E3.us k hkl (by simp; omega)
        have pC := E3.step uC gC oC
        rw [List.nil_append] at pC
        obtain ⟨v2C, W2C, v3C, W3C, q1C, q2C, -, -, q3C, q4C, q5C, q6C, q7C⟩ := put_tail (t := ⟨i, ⟨x, y, a, b⟩⟩) hRd pC (((Lone.new Z.drew ⟨i, ⟨x, y, a, b⟩⟩).alloc (.cells #[] 58)).grown gC (by simp [Value.ownBlock])) hkl hl
        have TC : Hid (Rt w r (.slice (some ⟨g, o, none⟩) l.length cap) (ins l ⟨i, ⟨x, y, a, b⟩⟩) ((W3C).setCell ⟨r, 0, none⟩ v3C) ∧ ((Builtin.append_ #[27, 27] 27 #[vC, .slice (some ⟨Z.drew.heap.size, 0, none⟩) 1 1]).run Try.prog WC = .ok v2C W2C ∧ (Builtin.append_ #[27, 27] 27 #[v2C, hiV (.slice (some ⟨g, o, none⟩) l.length cap) k]).run Try.prog W2C = .ok v3C W3C) ∧ Below Z.drew.heap.size Z.drew W2C ∧ Below Z.drew.heap.size Z.drew W3C ∧ (W3C).frozen? ⟨r, 0, none⟩ = false ∧ ∃ q n c, v3C = .slice q n c) := hide ⟨q7C.from hBd hinsk, ⟨q1C, q2C⟩, q3C, q4C, q5C, q6C⟩
        have b1 := hide E1.below
        have bA := hide pA.below
        have bA2 := hide pA2.below
        have b12 := hide E2.below
        have bB := hide pB.below
        have b2 := hide B2
        have b21 := hide E3.below
        have bC := hide pC.below
        replace rA := hide rA
        replace rB := hide rB
        replace rC := hide rC
        have HU := hide hRd.us
        clear E1 E2 E3 B2 uA uB uC gA gB gC oA oB oC pA pA2 pB pC q1A q2A q3A q4A q5A q6A q7A q1B q2B q3B q4B q5B q6B q7B q1C q2C q3C q4C q5C q6C q7C hRd hBd hinsk HK
        refine wp_region_z (fun Z : World => Z.cell? ⟨r, 0, none⟩ = some (.slice (some ⟨g, o, none⟩) l.length cap) ∧ Z.cell? ⟨w.heap.size, 0, none⟩ = some (.int .i64 x) ∧ Z.cell? ⟨w.heap.size, 1, none⟩ = some (.int .i64 y) ∧ Z.cell? ⟨w.heap.size, 2, none⟩ = some (.int .i64 a) ∧ Z.cell? ⟨w.heap.size, 3, none⟩ = some (.int .i64 b)) 23 (by kernel_rfl) ?_
        refine anyZ_take 0 8 (v := ptr r) rfl (by kernel_rfl) (fun _ _ _ h => h) (Or.inl ⟨by rfl, fun wx hx => run_mv (by rfl) (by rfl)⟩) (hSof.out _ (Below.refl _ _)) ?_
        try simp only [Act.put, List.getElem_toArray, List.getElem_cons_zero, List.getElem_cons_succ, List.setIfInBounds_toArray, List.set_cons_zero, List.set_cons_succ]
        refine anyZ_take 2 8 (v := ptr r) rfl (by kernel_rfl) (fun _ _ _ h => h) (Or.inl ⟨by rfl, fun wx hx => run_mv (by rfl) (by rfl)⟩) (hSof.out _ (Below.refl _ _)) ?_
        try simp only [Act.put, List.getElem_toArray, List.getElem_cons_zero, List.getElem_cons_succ, List.setIfInBounds_toArray, List.set_cons_zero, List.set_cons_succ]
        refine anyZ_take 3 8 (v := ptr r) rfl (by kernel_rfl) (fun _ _ _ h => h) (Or.inl ⟨by rfl, fun wx hx => run_nc (by rfl) (by rfl)⟩) (hSof.out _ (Below.refl _ _)) ?_
        try simp only [Act.put, List.getElem_toArray, List.getElem_cons_zero, List.getElem_cons_succ, List.setIfInBounds_toArray, List.set_cons_zero, List.set_cons_succ]
        refine anyZ_take 4 8 (v := ptr r) rfl (by kernel_rfl) (fun _ _ _ h => h) (Or.inl ⟨by rfl, fun wx hx => run_l (by rfl) (by rfl)⟩) (hSof.out _ (Below.refl _ _)) ?_
        try simp only [Act.put, List.getElem_toArray, List.getElem_cons_zero, List.getElem_cons_succ, List.setIfInBounds_toArray, List.set_cons_zero, List.set_cons_succ]
        refine anyZ_take 5 8 (v := (.slice (some ⟨g, o, none⟩) l.length cap)) rfl (by kernel_rfl) (fun _ _ _ h => h) (Or.inl ⟨by rfl, fun wx hx => run_load (by rfl) (by rfl) hx.1⟩) (hSof.out _ (Below.refl _ _)) ?_
        try simp only [Act.put, List.getElem_toArray, List.getElem_cons_zero, List.getElem_cons_succ, List.setIfInBounds_toArray, List.set_cons_zero, List.set_cons_succ]
        refine anyZ_take 6 8 (v := .int .i64 (k : Nat)) rfl (by kernel_rfl) (fun _ _ _ h => h) (Or.inl ⟨by rfl, fun wx hx => run_mv (by rfl) (by rfl)⟩) (hSof.out _ (Below.refl _ _)) ?_
        try simp only [Act.put, List.getElem_toArray, List.getElem_cons_zero, List.getElem_cons_succ, List.setIfInBounds_toArray, List.set_cons_zero, List.set_cons_succ]
        refine anyZ_take 7 8 (v := loV (.slice (some ⟨g, o, none⟩) l.length cap) k) rfl (by kernel_rfl) (fun _ _ _ h => h) (Or.inl ⟨by rfl, fun wx hx => run_lo HU.out (by rfl) (by rfl) (by rfl) hkl⟩) (hSof.out _ (Below.refl _ _)) ?_
        try simp only [Act.put, List.getElem_toArray, List.getElem_cons_zero, List.getElem_cons_succ, List.setIfInBounds_toArray, List.set_cons_zero, List.set_cons_succ]
        refine anyZ_take 9 8 (v := .int .i64 i) rfl (by kernel_rfl) (fun _ _ _ h => h) (Or.inl ⟨by rfl, fun wx hx => run_mv (by rfl) (by rfl)⟩) (hSof.out _ (Below.refl _ _)) ?_
        try simp only [Act.put, List.getElem_toArray, List.getElem_cons_zero, List.getElem_cons_succ, List.setIfInBounds_toArray, List.set_cons_zero, List.set_cons_succ]
        refine anyZ_take 10 8 (v := .agg #[.int .i64 x, .int .i64 y, .int .i64 a, .int .i64 b]) rfl (by kernel_rfl) (fun _ _ _ h => h) (Or.inl ⟨by rfl, fun wx hx => run_rect (by rfl) (by rfl) hx.2.1 hx.2.2.1 hx.2.2.2.1 hx.2.2.2.2⟩) (hSof.out _ (Below.refl _ _)) ?_
        try simp only [Act.put, List.getElem_toArray, List.getElem_cons_zero, List.getElem_cons_succ, List.setIfInBounds_toArray, List.set_cons_zero, List.set_cons_succ]
        refine anyZ_take 11 8 (v := .agg #[.int .i64 i, .int .i64 x, .int .i64 y, .int .i64 a, .int .i64 b]) rfl (by kernel_rfl) (fun _ _ _ h => h) (Or.inl ⟨by rfl, fun wx hx => run_unit (by rfl) (by rfl) (by rfl)⟩) (hSof.out _ (Below.refl _ _)) ?_
        try simp only [Act.put, List.getElem_toArray, List.getElem_cons_zero, List.getElem_cons_succ, List.setIfInBounds_toArray, List.set_cons_zero, List.set_cons_succ]
        refine anyZ_take 14 8 (v := ptr r) rfl (by kernel_rfl) (fun _ _ _ h => h) (Or.inl ⟨by rfl, fun wx hx => run_mv (by rfl) (by rfl)⟩) (hSof.out _ (Below.refl _ _)) ?_
        try simp only [Act.put, List.getElem_toArray, List.getElem_cons_zero, List.getElem_cons_succ, List.setIfInBounds_toArray, List.set_cons_zero, List.set_cons_succ]
        refine anyZ_take 15 8 (v := ptr r) rfl (by kernel_rfl) (fun _ _ _ h => h) (Or.inl ⟨by rfl, fun wx hx => run_nc (by rfl) (by rfl)⟩) (hSof.out _ (Below.refl _ _)) ?_
        try simp only [Act.put, List.getElem_toArray, List.getElem_cons_zero, List.getElem_cons_succ, List.setIfInBounds_toArray, List.set_cons_zero, List.set_cons_succ]
        refine anyZ_take 16 8 (v := ptr r) rfl (by kernel_rfl) (fun _ _ _ h => h) (Or.inl ⟨by rfl, fun wx hx => run_l (by rfl) (by rfl)⟩) (hSof.out _ (Below.refl _ _)) ?_
        try simp only [Act.put, List.getElem_toArray, List.getElem_cons_zero, List.getElem_cons_succ, List.setIfInBounds_toArray, List.set_cons_zero, List.set_cons_succ]
        refine anyZ_take 17 8 (v := (.slice (some ⟨g, o, none⟩) l.length cap)) rfl (by kernel_rfl) (fun _ _ _ h => h) (Or.inl ⟨by rfl, fun wx hx => run_load (by rfl) (by rfl) hx.1⟩) (hSof.out _ (Below.refl _ _)) ?_
        try simp only [Act.put, List.getElem_toArray, List.getElem_cons_zero, List.getElem_cons_succ, List.setIfInBounds_toArray, List.set_cons_zero, List.set_cons_succ]
        refine anyZ_take 18 8 (v := .int .i64 (k : Nat)) rfl (by kernel_rfl) (fun _ _ _ h => h) (Or.inl ⟨by rfl, fun wx hx => run_mv (by rfl) (by rfl)⟩) (hSof.out _ (Below.refl _ _)) ?_
        try simp only [Act.put, List.getElem_toArray, List.getElem_cons_zero, List.getElem_cons_succ, List.setIfInBounds_toArray, List.set_cons_zero, List.set_cons_succ]
        refine anyZ_take 19 8 (v := hiV (.slice (some ⟨g, o, none⟩) l.length cap) k) rfl (by kernel_rfl) (fun _ _ _ h => h) (Or.inl ⟨by rfl, fun wx hx => run_hi HU.out (by rfl) (by rfl) (by rfl) hkl⟩) (hSof.out _ (Below.refl _ _)) ?_
        try simp only [Act.put, List.getElem_toArray, List.getElem_cons_zero, List.getElem_cons_succ, List.setIfInBounds_toArray, List.set_cons_zero, List.set_cons_succ]
        refine anyZ_ready (rs := [1, 12]) (by kernel_rfl) (by simp) ?_
        refine readyZ.cons rfl rfl (run_empty (by rfl)) (fun _ => hSof.out _ b1.out) ?_ ?_
        · try simp only [Act.put, List.getElem_toArray, List.getElem_cons_zero, List.getElem_cons_succ, List.setIfInBounds_toArray, List.set_cons_zero, List.set_cons_succ]
          refine anyZ_ready (rs := [8, 12]) (by kernel_rfl) (by simp) ?_
          refine readyZ.cons rfl rfl (run_append (by rfl) (by rfl) (by rfl) rA.out) (fun _ => hSof.out _ bA.out) ?_ ?_
          · try simp only [Act.put, List.getElem_toArray, List.getElem_cons_zero, List.getElem_cons_succ, List.setIfInBounds_toArray, List.set_cons_zero, List.set_cons_succ]
            refine anyZ_ready (rs := [12]) (by kernel_rfl) (by simp) ?_
            refine readyZ.cons rfl rfl (run_single (by rfl) (by rfl)) (fun _ => hSof.out _ bA2.out) ?_ readyZ.nil
            try simp only [Act.put, List.getElem_toArray, List.getElem_cons_zero, List.getElem_cons_succ, List.setIfInBounds_toArray, List.set_cons_zero, List.set_cons_succ]
            refine anyZ_ready (rs := [13]) (by kernel_rfl) (by simp) ?_
            refine readyZ.cons rfl rfl (run_append (by rfl) (by rfl) (by rfl) TA.out.2.1.1) (fun _ => hSof.out _ TA.out.2.2.1) ?_ readyZ.nil
            try simp only [Act.put, List.getElem_toArray, List.getElem_cons_zero, List.getElem_cons_succ, List.setIfInBounds_toArray, List.set_cons_zero, List.set_cons_succ]
            refine anyZ_ready (rs := [20]) (by kernel_rfl) (by simp) ?_
            refine readyZ.cons rfl rfl (run_append (by rfl) (by rfl) (by rfl) TA.out.2.1.2) (fun _ => hSof.out _ TA.out.2.2.2.1) ?_ readyZ.nil
            try simp only [Act.put, List.getElem_toArray, List.getElem_cons_zero, List.getElem_cons_succ, List.setIfInBounds_toArray, List.set_cons_zero, List.set_cons_succ]
            refine anyZ_take 21 8 (v := ptr r) rfl (by kernel_rfl) (fun _ _ _ h => h) (Or.inl ⟨by rfl, fun wx hx => run_nc (by rfl) (by rfl)⟩) (hSof.out _ TA.out.2.2.2.1) ?_
            try simp only [Act.put, List.getElem_toArray, List.getElem_cons_zero, List.getElem_cons_succ, List.setIfInBounds_toArray, List.set_cons_zero, List.set_cons_succ]
            refine anyZ_take 22 8 (v := ptr r) rfl (by kernel_rfl) (fun _ _ _ h => h) (Or.inl ⟨by rfl, fun wx hx => run_l (by rfl) (by rfl)⟩) (hSof.out _ TA.out.2.2.2.1) ?_
            try simp only [Act.put, List.getElem_toArray, List.getElem_cons_zero, List.getElem_cons_succ, List.setIfInBounds_toArray, List.set_cons_zero, List.set_cons_succ]
            refine anyZ_ready (rs := [23]) (by kernel_rfl) (by simp) ?_
            refine readyZ.skip rfl rfl (run_store (by rfl) (by rfl) (by rfl) TA.out.2.2.2.2.2 (hSof.out _ TA.out.2.2.2.1).1 TA.out.2.2.2.2.1) (fun h => absurd rfl h) ?_ readyZ.nil
            try simp only [Act.put, List.getElem_toArray, List.getElem_cons_zero, List.getElem_cons_succ, List.setIfInBounds_toArray, List.set_cons_zero, List.set_cons_succ]
            refine anyZ_done (by kernel_rfl) ?_ _
            go_wp2_with fail
            go_ret
            exact ⟨rfl, TA.out.1⟩
          · refine readyZ.cons rfl rfl (run_single (by rfl) (by rfl)) (fun _ => hSof.out _ b12.out) ?_ readyZ.nil
            try simp only [Act.put, List.getElem_toArray, List.getElem_cons_zero, List.getElem_cons_succ, List.setIfInBounds_toArray, List.set_cons_zero, List.set_cons_succ]
            refine anyZ_ready (rs := [8]) (by kernel_rfl) (by simp) ?_
            refine readyZ.cons rfl rfl (run_append (by rfl) (by rfl) (by rfl) rB.out) (fun _ => hSof.out _ bB.out) ?_ readyZ.nil
            try simp only [Act.put, List.getElem_toArray, List.getElem_cons_zero, List.getElem_cons_succ, List.setIfInBounds_toArray, List.set_cons_zero, List.set_cons_succ]
            refine anyZ_ready (rs := [13]) (by kernel_rfl) (by simp) ?_
            refine readyZ.cons rfl rfl (run_append (by rfl) (by rfl) (by rfl) TB.out.2.1.1) (fun _ => hSof.out _ TB.out.2.2.1) ?_ readyZ.nil
            try simp only [Act.put, List.getElem_toArray, List.getElem_cons_zero, List.getElem_cons_succ, List.setIfInBounds_toArray, List.set_cons_zero, List.set_cons_succ]
            refine anyZ_ready (rs := [20]) (by kernel_rfl) (by simp) ?_
            refine readyZ.cons rfl rfl (run_append (by rfl) (by rfl) (by rfl) TB.out.2.1.2) (fun _ => hSof.out _ TB.out.2.2.2.1) ?_ readyZ.nil
            try simp only [Act.put, List.getElem_toArray, List.getElem_cons_zero, List.getElem_cons_succ, List.setIfInBounds_toArray, List.set_cons_zero, List.set_cons_succ]
            refine anyZ_take 21 8 (v := ptr r) rfl (by kernel_rfl) (fun _ _ _ h => h) (Or.inl ⟨by rfl, fun wx hx => run_nc (by rfl) (by rfl)⟩) (hSof.out _ TB.out.2.2.2.1) ?_
            try simp only [Act.put, List.getElem_toArray, List.getElem_cons_zero, List.getElem_cons_succ, List.setIfInBounds_toArray, List.set_cons_zero, List.set_cons_succ]
            refine anyZ_take 22 8 (v := ptr r) rfl (by kernel_rfl) (fun _ _ _ h => h) (Or.inl ⟨by rfl, fun wx hx => run_l (by rfl) (by rfl)⟩) (hSof.out _ TB.out.2.2.2.1) ?_
            try simp only [Act.put, List.getElem_toArray, List.getElem_cons_zero, List.getElem_cons_succ, List.setIfInBounds_toArray, List.set_cons_zero, List.set_cons_succ]
            refine anyZ_ready (rs := [23]) (by kernel_rfl) (by simp) ?_
            refine readyZ.skip rfl rfl (run_store (by rfl) (by rfl) (by rfl) TB.out.2.2.2.2.2 (hSof.out _ TB.out.2.2.2.1).1 TB.out.2.2.2.2.1) (fun h => absurd rfl h) ?_ readyZ.nil
            try simp only [Act.put, List.getElem_toArray, List.getElem_cons_zero, List.getElem_cons_succ, List.setIfInBounds_toArray, List.set_cons_zero, List.set_cons_succ]
            refine anyZ_done (by kernel_rfl) ?_ _
            go_wp2_with fail
            go_ret
            exact ⟨rfl, TB.out.1⟩
        · refine readyZ.cons rfl rfl (run_single (by rfl) (by rfl)) (fun _ => hSof.out _ b2.out) ?_ readyZ.nil
          try simp only [Act.put, List.getElem_toArray, List.getElem_cons_zero, List.getElem_cons_succ, List.setIfInBounds_toArray, List.set_cons_zero, List.set_cons_succ]
          refine anyZ_ready (rs := [1]) (by kernel_rfl) (by simp) ?_
          refine readyZ.cons rfl rfl (run_empty (by rfl)) (fun _ => hSof.out _ b21.out) ?_ readyZ.nil
          try simp only [Act.put, List.getElem_toArray, List.getElem_cons_zero, List.getElem_cons_succ, List.setIfInBounds_toArray, List.set_cons_zero, List.set_cons_succ]
          refine anyZ_ready (rs := [8]) (by kernel_rfl) (by simp) ?_
          refine readyZ.cons rfl rfl (run_append (by rfl) (by rfl) (by rfl) rC.out) (fun _ => hSof.out _ bC.out) ?_ readyZ.nil
          try simp only [Act.put, List.getElem_toArray, List.getElem_cons_zero, List.getElem_cons_succ, List.setIfInBounds_toArray, List.set_cons_zero, List.set_cons_succ]
          refine anyZ_ready (rs := [13]) (by kernel_rfl) (by simp) ?_
          refine readyZ.cons rfl rfl (run_append (by rfl) (by rfl) (by rfl) TC.out.2.1.1) (fun _ => hSof.out _ TC.out.2.2.1) ?_ readyZ.nil
          try simp only [Act.put, List.getElem_toArray, List.getElem_cons_zero, List.getElem_cons_succ, List.setIfInBounds_toArray, List.set_cons_zero, List.set_cons_succ]
          refine anyZ_ready (rs := [20]) (by kernel_rfl) (by simp) ?_
          refine readyZ.cons rfl rfl (run_append (by rfl) (by rfl) (by rfl) TC.out.2.1.2) (fun _ => hSof.out _ TC.out.2.2.2.1) ?_ readyZ.nil
          try simp only [Act.put, List.getElem_toArray, List.getElem_cons_zero, List.getElem_cons_succ, List.setIfInBounds_toArray, List.set_cons_zero, List.set_cons_succ]
          refine anyZ_take 21 8 (v := ptr r) rfl (by kernel_rfl) (fun _ _ _ h => h) (Or.inl ⟨by rfl, fun wx hx => run_nc (by rfl) (by rfl)⟩) (hSof.out _ TC.out.2.2.2.1) ?_
          try simp only [Act.put, List.getElem_toArray, List.getElem_cons_zero, List.getElem_cons_succ, List.setIfInBounds_toArray, List.set_cons_zero, List.set_cons_succ]
          refine anyZ_take 22 8 (v := ptr r) rfl (by kernel_rfl) (fun _ _ _ h => h) (Or.inl ⟨by rfl, fun wx hx => run_l (by rfl) (by rfl)⟩) (hSof.out _ TC.out.2.2.2.1) ?_
          try simp only [Act.put, List.getElem_toArray, List.getElem_cons_zero, List.getElem_cons_succ, List.setIfInBounds_toArray, List.set_cons_zero, List.set_cons_succ]
          refine anyZ_ready (rs := [23]) (by kernel_rfl) (by simp) ?_
          refine readyZ.skip rfl rfl (run_store (by rfl) (by rfl) (by rfl) TC.out.2.2.2.2.2 (hSof.out _ TC.out.2.2.2.1).1 TC.out.2.2.2.2.1) (fun h => absurd rfl h) ?_ readyZ.nil
          try simp only [Act.put, List.getElem_toArray, List.getElem_cons_zero, List.getElem_cons_succ, List.setIfInBounds_toArray, List.set_cons_zero, List.set_cons_succ]
          refine anyZ_done (by kernel_rfl) ?_ _
          go_wp2_with fail
          go_ret
          exact ⟨rfl, TC.out.1⟩
    · obtain rfl : k = l.length := by omega
      have hkq : l.length = pos l i := by omega
      have hki : ¬ ((l.length : Nat) : Int) < (l.length : Nat) := by omega
      have hinsk : l.take l.length ++ (⟨i, ⟨x, y, a, b⟩⟩ : Bd) :: l.drop l.length = ins l ⟨i, ⟨x, y, a, b⟩⟩ := by
        unfold ins
        rw [← hkq]
      clear hkq hkp hpl
      go_wp2_with fail
      have hRd : Rx Z.drew r (.slice av l.length cap) l := ⟨hRZ.blk, hRZ.us⟩
      have hBd : Below w.heap.size w Z.drew := hBZ.drew
      have hSof : Hid (∀ Y : World, Below Z.drew.heap.size Z.drew Y → Y.cell? ⟨r, 0, none⟩ = some (.slice av l.length cap) ∧ Y.cell? ⟨w.heap.size, 0, none⟩ = some (.int .i64 x) ∧ Y.cell? ⟨w.heap.size, 1, none⟩ = some (.int .i64 y) ∧ Y.cell? ⟨w.heap.size, 2, none⟩ = some (.int .i64 a) ∧ Y.cell? ⟨w.heap.size, 3, none⟩ = some (.int .i64 b)) := hide (fun Y hY => by
        obtain ⟨⟨f0, f1, f2, f3⟩, -, -⟩ := (show Four Z.drew w.heap.size x y a b from FZ).kept hY
        exact ⟨(hRd.kept hY).c, f0, f1, f2, f3⟩)
      have E1 := Pw.empty (Below.refl Z.drew.heap.size Z.drew)
      obtain ⟨vA, WA, rA, uA, gA, oA⟩ := app_lo (hRd.kept E1.below).us E1.us l.length hkl (by simp; omega)
      have pA := E1.step uA gA oA
      rw [List.nil_append] at pA
      have pA2 := pA.alloc (.cells #[.int .i64 i, .int .i64 x, .int .i64 y, .int .i64 a, .int .i64 b] 58)
      obtain ⟨v2A, W2A, v3A, W3A, q1A, q2A, -, -, q3A, q4A, q5A, q6A, q7A⟩ := put_tail (t := ⟨i, ⟨x, y, a, b⟩⟩) hRd pA2 (Lone.new WA ⟨i, ⟨x, y, a, b⟩⟩) hkl hl
      have TA : Hid (Rt w r (.slice av l.length cap) (ins l ⟨i, ⟨x, y, a, b⟩⟩) ((W3A).setCell ⟨r, 0, none⟩ v3A) ∧ ((Builtin.append_ #[27, 27] 27 #[vA, .slice (some ⟨WA.heap.size, 0, none⟩) 1 1]).run Try.prog (WA.alloc (.cells #[.int .i64 i, .int .i64 x, .int .i64 y, .int .i64 a, .int .i64 b] 58)) = .ok v2A W2A ∧ (Builtin.append_ #[27, 27] 27 #[v2A, hiV (.slice av l.length cap) l.length]).run Try.prog W2A = .ok v3A W3A) ∧ Below Z.drew.heap.size Z.drew W2A ∧ Below Z.drew.heap.size Z.drew W3A ∧ (W3A).frozen? ⟨r, 0, none⟩ = false ∧ ∃ q n c, v3A = .slice q n c) := hide ⟨q7A.from hBd hinsk, ⟨q1A, q2A⟩, q3A, q4A, q5A, q6A⟩
      have E2 := E1.alloc (.cells #[.int .i64 i, .int .i64 x, .int .i64 y, .int .i64 a, .int .i64 b] 58)
      obtain ⟨vB, WB, rB, uB, gB, oB⟩ := app_lo (hRd.kept E2.below).us E2.us l.length hkl (by simp; omega)
      have pB := E2.step uB gB oB
      rw [List.nil_append] at pB
      obtain ⟨v2B, W2B, v3B, W3B, q1B, q2B, -, -, q3B, q4B, q5B, q6B, q7B⟩ := put_tail (t := ⟨i, ⟨x, y, a, b⟩⟩) hRd pB ((Lone.new (Z.drew.alloc (.cells #[] 58)) ⟨i, ⟨x, y, a, b⟩⟩).grown gB (by simp [Value.ownBlock])) hkl hl
      have TB : Hid (Rt w r (.slice av l.length cap) (ins l ⟨i, ⟨x, y, a, b⟩⟩) ((W3B).setCell ⟨r, 0, none⟩ v3B) ∧ ((Builtin.append_ #[27, 27] 27 #[vB, .slice (some ⟨(Z.drew.alloc (.cells #[] 58)).heap.size, 0, none⟩) 1 1]).run Try.prog WB = .ok v2B W2B ∧ (Builtin.append_ #[27, 27] 27 #[v2B, hiV (.slice av l.length cap) l.length]).run Try.prog W2B = .ok v3B W3B) ∧ Below Z.drew.heap.size Z.drew W2B ∧ Below Z.drew.heap.size Z.drew W3B ∧ (W3B).frozen? ⟨r, 0, none⟩ = false ∧ ∃ q n c, v3B = .slice q n c) := hide ⟨q7B.from hBd hinsk, ⟨q1B, q2B⟩, q3B, q4B, q5B, q6B⟩
      have B2 : Below Z.drew.heap.size Z.drew (Z.drew.alloc (.cells #[.int .i64 i, .int .i64 x, .int .i64 y, .int .i64 a, .int .i64 b] 58)) := box1 _ _
      have E3 := Pw.empty B2
      obtain ⟨vC, WC, rC, uC, gC, oC⟩ := app_lo (hRd.kept E3.below).us E3.us l.length hkl (by simp; omega)
      have pC := E3.step uC gC oC
      rw [List.nil_append] at pC
      obtain ⟨v2C, W2C, v3C, W3C, q1C, q2C, -, -, q3C, q4C, q5C, q6C, q7C⟩ := put_tail (t := ⟨i, ⟨x, y, a, b⟩⟩) hRd pC (((Lone.new Z.drew ⟨i, ⟨x, y, a, b⟩⟩).alloc (.cells #[] 58)).grown gC (by simp [Value.ownBlock])) hkl hl
      have TC : Hid (Rt w r (.slice av l.length cap) (ins l ⟨i, ⟨x, y, a, b⟩⟩) ((W3C).setCell ⟨r, 0, none⟩ v3C) ∧ ((Builtin.append_ #[27, 27] 27 #[vC, .slice (some ⟨Z.drew.heap.size, 0, none⟩) 1 1]).run Try.prog WC = .ok v2C W2C ∧ (Builtin.append_ #[27, 27] 27 #[v2C, hiV (.slice av l.length cap) l.length]).run Try.prog W2C = .ok v3C W3C) ∧ Below Z.drew.heap.size Z.drew W2C ∧ Below Z.drew.heap.size Z.drew W3C ∧ (W3C).frozen? ⟨r, 0, none⟩ = false ∧ ∃ q n c, v3C = .slice q n c) := hide ⟨q7C.from hBd hinsk, ⟨q1C, q2C⟩, q3C, q4C, q5C, q6C⟩
      have b1 := hide E1.below
      have bA := hide pA.below
      have bA2 := hide pA2.below
      have b12 := hide E2.below
      have bB := hide pB.below
      have b2 := hide B2
      have b21 := hide E3.below
      have bC := hide pC.below
      replace rA := hide rA
      replace rB := hide rB
      replace rC := hide rC
      have HU := hide hRd.us
      clear E1 E2 E3 B2 uA uB uC gA gB gC oA oB oC pA pA2 pB pC q1A q2A q3A q4A q5A q6A q7A q1B q2B q3B q4B q5B q6B q7B q1C q2C q3C q4C q5C q6C q7C hRd hBd hinsk HK
      refine wp_region_z (fun Z : World => Z.cell? ⟨r, 0, none⟩ = some (.slice av l.length cap) ∧ Z.cell? ⟨w.heap.size, 0, none⟩ = some (.int .i64 x) ∧ Z.cell? ⟨w.heap.size, 1, none⟩ = some (.int .i64 y) ∧ Z.cell? ⟨w.heap.size, 2, none⟩ = some (.int .i64 a) ∧ Z.cell? ⟨w.heap.size, 3, none⟩ = some (.int .i64 b)) 23 (by kernel_rfl) ?_
      refine anyZ_take 0 8 (v := ptr r) rfl (by kernel_rfl) (fun _ _ _ h => h) (Or.inl ⟨by rfl, fun wx hx => run_mv (by rfl) (by rfl)⟩) (hSof.out _ (Below.refl _ _)) ?_
      try simp only [Act.put, List.getElem_toArray, List.getElem_cons_zero, List.getElem_cons_succ, List.setIfInBounds_toArray, List.set_cons_zero, List.set_cons_succ]
      refine anyZ_take 2 8 (v := ptr r) rfl (by kernel_rfl) (fun _ _ _ h => h) (Or.inl ⟨by rfl, fun wx hx => run_mv (by rfl) (by rfl)⟩) (hSof.out _ (Below.refl _ _)) ?_
      try simp only [Act.put, List.getElem_toArray, List.getElem_cons_zero, List.getElem_cons_succ, List.setIfInBounds_toArray, List.set_cons_zero, List.set_cons_succ]
      refine anyZ_take 3 8 (v := ptr r) rfl (by kernel_rfl) (fun _ _ _ h => h) (Or.inl ⟨by rfl, fun wx hx => run_nc (by rfl) (by rfl)⟩) (hSof.out _ (Below.refl _ _)) ?_
      try simp only [Act.put, List.getElem_toArray, List.getElem_cons_zero, List.getElem_cons_succ, List.setIfInBounds_toArray, List.set_cons_zero, List.set_cons_succ]
      refine anyZ_take 4 8 (v := ptr r) rfl (by kernel_rfl) (fun _ _ _ h => h) (Or.inl ⟨by rfl, fun wx hx => run_l (by rfl) (by rfl)⟩) (hSof.out _ (Below.refl _ _)) ?_
      try simp only [Act.put, List.getElem_toArray, List.getElem_cons_zero, List.getElem_cons_succ, List.setIfInBounds_toArray, List.set_cons_zero, List.set_cons_succ]
      refine anyZ_take 5 8 (v := (.slice av l.length cap)) rfl (by kernel_rfl) (fun _ _ _ h => h) (Or.inl ⟨by rfl, fun wx hx => run_load (by rfl) (by rfl) hx.1⟩) (hSof.out _ (Below.refl _ _)) ?_
      try simp only [Act.put, List.getElem_toArray, List.getElem_cons_zero, List.getElem_cons_succ, List.setIfInBounds_toArray, List.set_cons_zero, List.set_cons_succ]
      refine anyZ_take 6 8 (v := .int .i64 (l.length : Nat)) rfl (by kernel_rfl) (fun _ _ _ h => h) (Or.inl ⟨by rfl, fun wx hx => run_mv (by rfl) (by rfl)⟩) (hSof.out _ (Below.refl _ _)) ?_
      try simp only [Act.put, List.getElem_toArray, List.getElem_cons_zero, List.getElem_cons_succ, List.setIfInBounds_toArray, List.set_cons_zero, List.set_cons_succ]
      refine anyZ_take 7 8 (v := loV (.slice av l.length cap) l.length) rfl (by kernel_rfl) (fun _ _ _ h => h) (Or.inl ⟨by rfl, fun wx hx => run_lo HU.out (by rfl) (by rfl) (by rfl) hkl⟩) (hSof.out _ (Below.refl _ _)) ?_
      try simp only [Act.put, List.getElem_toArray, List.getElem_cons_zero, List.getElem_cons_succ, List.setIfInBounds_toArray, List.set_cons_zero, List.set_cons_succ]
      refine anyZ_take 9 8 (v := .int .i64 i) rfl (by kernel_rfl) (fun _ _ _ h => h) (Or.inl ⟨by rfl, fun wx hx => run_mv (by rfl) (by rfl)⟩) (hSof.out _ (Below.refl _ _)) ?_
      try simp only [Act.put, List.getElem_toArray, List.getElem_cons_zero, List.getElem_cons_succ, List.setIfInBounds_toArray, List.set_cons_zero, List.set_cons_succ]
      refine anyZ_take 10 8 (v := .agg #[.int .i64 x, .int .i64 y, .int .i64 a, .int .i64 b]) rfl (by kernel_rfl) (fun _ _ _ h => h) (Or.inl ⟨by rfl, fun wx hx => run_rect (by rfl) (by rfl) hx.2.1 hx.2.2.1 hx.2.2.2.1 hx.2.2.2.2⟩) (hSof.out _ (Below.refl _ _)) ?_
      try simp only [Act.put, List.getElem_toArray, List.getElem_cons_zero, List.getElem_cons_succ, List.setIfInBounds_toArray, List.set_cons_zero, List.set_cons_succ]
      refine anyZ_take 11 8 (v := .agg #[.int .i64 i, .int .i64 x, .int .i64 y, .int .i64 a, .int .i64 b]) rfl (by kernel_rfl) (fun _ _ _ h => h) (Or.inl ⟨by rfl, fun wx hx => run_unit (by rfl) (by rfl) (by rfl)⟩) (hSof.out _ (Below.refl _ _)) ?_
      try simp only [Act.put, List.getElem_toArray, List.getElem_cons_zero, List.getElem_cons_succ, List.setIfInBounds_toArray, List.set_cons_zero, List.set_cons_succ]
      refine anyZ_take 14 8 (v := ptr r) rfl (by kernel_rfl) (fun _ _ _ h => h) (Or.inl ⟨by rfl, fun wx hx => run_mv (by rfl) (by rfl)⟩) (hSof.out _ (Below.refl _ _)) ?_
      try simp only [Act.put, List.getElem_toArray, List.getElem_cons_zero, List.getElem_cons_succ, List.setIfInBounds_toArray, List.set_cons_zero, List.set_cons_succ]
      refine anyZ_take 15 8 (v := ptr r) rfl (by kernel_rfl) (fun _ _ _ h => h) (Or.inl ⟨by rfl, fun wx hx => run_nc (by rfl) (by rfl)⟩) (hSof.out _ (Below.refl _ _)) ?_
      try simp only [Act.put, List.getElem_toArray, List.getElem_cons_zero, List.getElem_cons_succ, List.setIfInBounds_toArray, List.set_cons_zero, List.set_cons_succ]
      refine anyZ_take 16 8 (v := ptr r) rfl (by kernel_rfl) (fun _ _ _ h => h) (Or.inl ⟨by rfl, fun wx hx => run_l (by rfl) (by rfl)⟩) (hSof.out _ (Below.refl _ _)) ?_
      try simp only [Act.put, List.getElem_toArray, List.getElem_cons_zero, List.getElem_cons_succ, List.setIfInBounds_toArray, List.set_cons_zero, List.set_cons_succ]
      refine anyZ_take 17 8 (v := (.slice av l.length cap)) rfl (by kernel_rfl) (fun _ _ _ h => h) (Or.inl ⟨by rfl, fun wx hx => run_load (by rfl) (by rfl) hx.1⟩) (hSof.out _ (Below.refl _ _)) ?_
      try simp only [Act.put, List.getElem_toArray, List.getElem_cons_zero, List.getElem_cons_succ, List.setIfInBounds_toArray, List.set_cons_zero, List.set_cons_succ]
      refine anyZ_take 18 8 (v := .int .i64 (l.length : Nat)) rfl (by kernel_rfl) (fun _ _ _ h => h) (Or.inl ⟨by rfl, fun wx hx => run_mv (by rfl) (by rfl)⟩) (hSof.out _ (Below.refl _ _)) ?_
      try simp only [Act.put, List.getElem_toArray, List.getElem_cons_zero, List.getElem_cons_succ, List.setIfInBounds_toArray, List.set_cons_zero, List.set_cons_succ]
      refine anyZ_take 19 8 (v := hiV (.slice av l.length cap) l.length) rfl (by kernel_rfl) (fun _ _ _ h => h) (Or.inl ⟨by rfl, fun wx hx => run_hi HU.out (by rfl) (by rfl) (by rfl) hkl⟩) (hSof.out _ (Below.refl _ _)) ?_
      try simp only [Act.put, List.getElem_toArray, List.getElem_cons_zero, List.getElem_cons_succ, List.setIfInBounds_toArray, List.set_cons_zero, List.set_cons_succ]
      refine anyZ_ready (rs := [1, 12]) (by kernel_rfl) (by simp) ?_
      refine readyZ.cons rfl rfl (run_empty (by rfl)) (fun _ => hSof.out _ b1.out) ?_ ?_
      · try simp only [Act.put, List.getElem_toArray, List.getElem_cons_zero, List.getElem_cons_succ, List.setIfInBounds_toArray, List.set_cons_zero, List.set_cons_succ]
        refine anyZ_ready (rs := [8, 12]) (by kernel_rfl) (by simp) ?_
        refine readyZ.cons rfl rfl (run_append (by rfl) (by rfl) (by rfl) rA.out) (fun _ => hSof.out _ bA.out) ?_ ?_
        · try simp only [Act.put, List.getElem_toArray, List.getElem_cons_zero, List.getElem_cons_succ, List.setIfInBounds_toArray, List.set_cons_zero, List.set_cons_succ]
          refine anyZ_ready (rs := [12]) (by kernel_rfl) (by simp) ?_
          refine readyZ.cons rfl rfl (run_single (by rfl) (by rfl)) (fun _ => hSof.out _ bA2.out) ?_ readyZ.nil
          try simp only [Act.put, List.getElem_toArray, List.getElem_cons_zero, List.getElem_cons_succ, List.setIfInBounds_toArray, List.set_cons_zero, List.set_cons_succ]
          refine anyZ_ready (rs := [13]) (by kernel_rfl) (by simp) ?_
          refine readyZ.cons rfl rfl (run_append (by rfl) (by rfl) (by rfl) TA.out.2.1.1) (fun _ => hSof.out _ TA.out.2.2.1) ?_ readyZ.nil
          try simp only [Act.put, List.getElem_toArray, List.getElem_cons_zero, List.getElem_cons_succ, List.setIfInBounds_toArray, List.set_cons_zero, List.set_cons_succ]
          refine anyZ_ready (rs := [20]) (by kernel_rfl) (by simp) ?_
          refine readyZ.cons rfl rfl (run_append (by rfl) (by rfl) (by rfl) TA.out.2.1.2) (fun _ => hSof.out _ TA.out.2.2.2.1) ?_ readyZ.nil
          try simp only [Act.put, List.getElem_toArray, List.getElem_cons_zero, List.getElem_cons_succ, List.setIfInBounds_toArray, List.set_cons_zero, List.set_cons_succ]
          refine anyZ_take 21 8 (v := ptr r) rfl (by kernel_rfl) (fun _ _ _ h => h) (Or.inl ⟨by rfl, fun wx hx => run_nc (by rfl) (by rfl)⟩) (hSof.out _ TA.out.2.2.2.1) ?_
          try simp only [Act.put, List.getElem_toArray, List.getElem_cons_zero, List.getElem_cons_succ, List.setIfInBounds_toArray, List.set_cons_zero, List.set_cons_succ]
          refine anyZ_take 22 8 (v := ptr r) rfl (by kernel_rfl) (fun _ _ _ h => h) (Or.inl ⟨by rfl, fun wx hx => run_l (by rfl) (by rfl)⟩) (hSof.out _ TA.out.2.2.2.1) ?_
          try simp only [Act.put, List.getElem_toArray, List.getElem_cons_zero, List.getElem_cons_succ, List.setIfInBounds_toArray, List.set_cons_zero, List.set_cons_succ]
          refine anyZ_ready (rs := [23]) (by kernel_rfl) (by simp) ?_
          refine readyZ.skip rfl rfl (run_store (by rfl) (by rfl) (by rfl) TA.out.2.2.2.2.2 (hSof.out _ TA.out.2.2.2.1).1 TA.out.2.2.2.2.1) (fun h => absurd rfl h) ?_ readyZ.nil
          try simp only [Act.put, List.getElem_toArray, List.getElem_cons_zero, List.getElem_cons_succ, List.setIfInBounds_toArray, List.set_cons_zero, List.set_cons_succ]
          refine anyZ_done (by kernel_rfl) ?_ _
          go_wp2_with fail
          go_ret
          exact ⟨rfl, TA.out.1⟩
        · refine readyZ.cons rfl rfl (run_single (by rfl) (by rfl)) (fun _ => hSof.out _ b12.out) ?_ readyZ.nil
          try simp only [Act.put, List.getElem_toArray, List.getElem_cons_zero, List.getElem_cons_succ, List.setIfInBounds_toArray, List.set_cons_zero, List.set_cons_succ]
          refine anyZ_ready (rs := [8]) (by kernel_rfl) (by simp) ?_
          refine readyZ.cons rfl rfl (run_append (by rfl) (by rfl) (by rfl) rB.out) (fun _ => hSof.out _ bB.out) ?_ readyZ.nil
          try simp only [Act.put, List.getElem_toArray, List.getElem_cons_zero, List.getElem_cons_succ, List.setIfInBounds_toArray, List.set_cons_zero, List.set_cons_succ]
          refine anyZ_ready (rs := [13]) (by kernel_rfl) (by simp) ?_
          refine readyZ.cons rfl rfl (run_append (by rfl) (by rfl) (by rfl) TB.out.2.1.1) (fun _ => hSof.out _ TB.out.2.2.1) ?_ readyZ.nil
          try simp only [Act.put, List.getElem_toArray, List.getElem_cons_zero, List.getElem_cons_succ, List.setIfInBounds_toArray, List.set_cons_zero, List.set_cons_succ]
          refine anyZ_ready (rs := [20]) (by kernel_rfl) (by simp) ?_
          refine readyZ.cons rfl rfl (run_append (by rfl) (by rfl) (by rfl) TB.out.2.1.2) (fun _ => hSof.out _ TB.out.2.2.2.1) ?_ readyZ.nil
          try simp only [Act.put, List.getElem_toArray, List.getElem_cons_zero, List.getElem_cons_succ, List.setIfInBounds_toArray, List.set_cons_zero, List.set_cons_succ]
          refine anyZ_take 21 8 (v := ptr r) rfl (by kernel_rfl) (fun _ _ _ h => h) (Or.inl ⟨by rfl, fun wx hx => run_nc (by rfl) (by rfl)⟩) (hSof.out _ TB.out.2.2.2.1) ?_
          try simp only [Act.put, List.getElem_toArray, List.getElem_cons_zero, List.getElem_cons_succ, List.setIfInBounds_toArray, List.set_cons_zero, List.set_cons_succ]
          refine anyZ_take 22 8 (v := ptr r) rfl (by kernel_rfl) (fun _ _ _ h => h) (Or.inl ⟨by rfl, fun wx hx => run_l (by rfl) (by rfl)⟩) (hSof.out _ TB.out.2.2.2.1) ?_
          try simp only [Act.put, List.getElem_toArray, List.getElem_cons_zero, List.getElem_cons_succ, List.setIfInBounds_toArray, List.set_cons_zero, List.set_cons_succ]
          refine anyZ_ready (rs := [23]) (by kernel_rfl) (by simp) ?_
          refine readyZ.skip rfl rfl (run_store (by rfl) (by rfl) (by rfl) TB.out.2.2.2.2.2 (hSof.out _ TB.out.2.2.2.1).1 TB.out.2.2.2.2.1) (fun h => absurd rfl h) ?_ readyZ.nil
          try simp only [Act.put, List.getElem_toArray, List.getElem_cons_zero, List.getElem_cons_succ, List.setIfInBounds_toArray, List.set_cons_zero, List.set_cons_succ]
          refine anyZ_done (by kernel_rfl) ?_ _
          go_wp2_with fail
          go_ret
          exact ⟨rfl, TB.out.1⟩
      · refine readyZ.cons rfl rfl (run_single (by rfl) (by rfl)) (fun _ => hSof.out _ b2.out) ?_ readyZ.nil
        try simp only [Act.put, List.getElem_toArray, List.getElem_cons_zero, List.getElem_cons_succ, List.setIfInBounds_toArray, List.set_cons_zero, List.set_cons_succ]
        refine anyZ_ready (rs := [1]) (by kernel_rfl) (by simp) ?_
        refine readyZ.cons rfl rfl (run_empty (by rfl)) (fun _ => hSof.out _ b21.out) ?_ readyZ.nil
        try simp only [Act.put, List.getElem_toArray, List.getElem_cons_zero, List.getElem_cons_succ, List.setIfInBounds_toArray, List.set_cons_zero, List.set_cons_succ]
        refine anyZ_ready (rs := [8]) (by kernel_rfl) (by simp) ?_
        refine readyZ.cons rfl rfl (run_append (by rfl) (by rfl) (by rfl) rC.out) (fun _ => hSof.out _ bC.out) ?_ readyZ.nil
        try simp only [Act.put, List.getElem_toArray, List.getElem_cons_zero, List.getElem_cons_succ, List.setIfInBounds_toArray, List.set_cons_zero, List.set_cons_succ]
        refine anyZ_ready (rs := [13]) (by kernel_rfl) (by simp) ?_
        refine readyZ.cons rfl rfl (run_append (by rfl) (by rfl) (by rfl) TC.out.2.1.1) (fun _ => hSof.out _ TC.out.2.2.1) ?_ readyZ.nil
        try simp only [Act.put, List.getElem_toArray, List.getElem_cons_zero, List.getElem_cons_succ, List.setIfInBounds_toArray, List.set_cons_zero, List.set_cons_succ]
        refine anyZ_ready (rs := [20]) (by kernel_rfl) (by simp) ?_
        refine readyZ.cons rfl rfl (run_append (by rfl) (by rfl) (by rfl) TC.out.2.1.2) (fun _ => hSof.out _ TC.out.2.2.2.1) ?_ readyZ.nil
        try simp only [Act.put, List.getElem_toArray, List.getElem_cons_zero, List.getElem_cons_succ, List.setIfInBounds_toArray, List.set_cons_zero, List.set_cons_succ]
        refine anyZ_take 21 8 (v := ptr r) rfl (by kernel_rfl) (fun _ _ _ h => h) (Or.inl ⟨by rfl, fun wx hx => run_nc (by rfl) (by rfl)⟩) (hSof.out _ TC.out.2.2.2.1) ?_
        try simp only [Act.put, List.getElem_toArray, List.getElem_cons_zero, List.getElem_cons_succ, List.setIfInBounds_toArray, List.set_cons_zero, List.set_cons_succ]
        refine anyZ_take 22 8 (v := ptr r) rfl (by kernel_rfl) (fun _ _ _ h => h) (Or.inl ⟨by rfl, fun wx hx => run_l (by rfl) (by rfl)⟩) (hSof.out _ TC.out.2.2.2.1) ?_
        try simp only [Act.put, List.getElem_toArray, List.getElem_cons_zero, List.getElem_cons_succ, List.setIfInBounds_toArray, List.set_cons_zero, List.set_cons_succ]
        refine anyZ_ready (rs := [23]) (by kernel_rfl) (by simp) ?_
        refine readyZ.skip rfl rfl (run_store (by rfl) (by rfl) (by rfl) TC.out.2.2.2.2.2 (hSof.out _ TC.out.2.2.2.1).1 TC.out.2.2.2.2.1) (fun h => absurd rfl h) ?_ readyZ.nil
        try simp only [Act.put, List.getElem_toArray, List.getElem_cons_zero, List.getElem_cons_succ, List.setIfInBounds_toArray, List.set_cons_zero, List.set_cons_succ]
        refine anyZ_done (by kernel_rfl) ?_ _
        go_wp2_with fail
        go_ret
        exact ⟨rfl, TC.out.1⟩
end Go.Proofs.Ytkodeopkgmichaa
namespace Go.Proofs.Ytkodeopkgmichaa
open Go.RowKit Go.Shelf
set_option linter.unusedVariables false
set_option linter.unusedSimpArgs false
theorem Rt.still {w w' : World} {r : Nat} {v : Value} {l : List Bd} (h : Rx w r v l) (hv : v.ownBlock ≠ some r) (hB : Below w.heap.size w w') : Rt w r v l w' :=
  ⟨v, h.kept hB, Turns.of_below hB, fun k e => .inl e, hv⟩
theorem reftake_any (r : Nat) (v : Value) (l : List Bd) (i : Int) (w : World) (h : Rx w r v l) (hv : v.ownBlock ≠ some r) (hf : Fine l) :
    Calls Try.prog 25 #[ptr r, .int .i64 i] w fun e w' => e = .returned (.int .i64 (takeC l i)) ∧ Rt w r v (del l i) w' := by
  unfold takeC
  cases hg : gOf l i with
  | none =>
    refine (reftake_no r v l i w h hf.len hg).mono ?_
    rintro e w' ⟨rfl, rfl⟩
    rw [del_none hg]
    exact ⟨rfl, Rt.still h hv (Below.refl _ _)⟩
  | some c => exact reftake_yes r v l i w h hv hf.sorted hf.len (by rw [hg]; rfl)
theorem refmove_any (r : Nat) (v : Value) (l : List Bd) (i x y : Int) (w : World) (h : Rx w r v l) (hv : v.ownBlock ≠ some r) (hf : Fine l) :
    Calls Try.prog 24 #[ptr r, .int .i64 i, cel x y] w fun e w' => e = .returned (.int .i64 (moveC l i x y)) ∧ Rt w r v (moveL l i x y) w' := by
  obtain ⟨a, cap, rfl, -, -, -⟩ := h.us.form
  have hR := h.rxr hf.len
  cases hg : gOf l i with
  | none =>
    refine (refmove_none r a cap l i x y w hR hg).mono ?_
    rintro e w' ⟨rfl, hB⟩
    rw [show moveC l i x y = 4 by simp [moveC, hg], show moveL l i x y = l by simp [moveL, hg]]
    exact ⟨rfl, Rt.still h hv hB⟩
  | some c =>
    have hC := moveC_ref hf (x := x) (y := y) hg
    by_cases h0 : may x y c.a c.b = true ∧ freeR l i x y c.a c.b = true
    · have e0 : moveC l i x y = 0 := by rw [hC, if_neg (by simp [h0.1]), if_pos h0.2]
      rw [e0, show moveL l i x y = ins (del l i) ⟨i, ⟨x, y, c.a, c.b⟩⟩ by simp [moveL, hg, e0]]
      exact refmove_yes r _ l i x y c w h hv hf.sorted hf.len hg h0.1 h0.2
    · have hn : may x y c.a c.b = false ∨ freeR l i x y c.a c.b = false := by
        cases h1 : may x y c.a c.b
        · exact .inl rfl
        · cases h2 : freeR l i x y c.a c.b
          · exact .inr rfl
          · exact absurd ⟨h1, h2⟩ h0
      have e0 : moveC l i x y = if may x y c.a c.b = false then 1 else 6 := by
        rw [hC]
        rcases hn with q | q
        · simp [q]
        · simp [q]
      have e1 : moveL l i x y = l := by
        simp only [moveL, hg]
        rw [if_neg]
        rw [e0]
        split <;> decide
      refine (refmove_no r a cap l i x y c w hR hf.sorted hg hn).mono ?_
      rintro e w' ⟨rfl, hB⟩
      rw [e0, e1]
      exact ⟨rfl, Rt.still h hv hB⟩
theorem refput_any (r : Nat) (v : Value) (l : List Bd) (i x y a b : Int) (w : World) (h : Rx w r v l) (hv : v.ownBlock ≠ some r) (hf : Fine l) :
    Calls Try.prog 26 #[ptr r, .int .i64 i, rct x y a b] w fun e w' => e = .returned (.int .i64 (putC l i x y a b)) ∧ Rt w r v (putL l i x y a b) w' := by
  obtain ⟨av, cap, rfl, -, -, -⟩ := h.us.form
  have hR := h.rxr hf.len
  have hC := putC_ref hf i x y a b
  by_cases h1 : may x y a b = false ∨ sm a b = false
  · rw [if_pos h1] at hC
    refine (refput_arg r i x y a b w h1).mono ?_
    rintro e w' ⟨rfl, hB⟩
    rw [putL, hC, if_neg (by decide)]
    exact ⟨rfl, Rt.still h hv hB⟩
  · rw [if_neg h1] at hC
    have hm : may x y a b = true := by cases q : may x y a b <;> simp_all
    have hs : sm a b = true := by cases q : sm a b <;> simp_all
    by_cases h2 : (gOf l i).isSome = true ∨ 256 ≤ l.length ∨ anyR l x y a b = true
    · have e0 : putC l i x y a b = if (gOf l i).isSome then 8 else if 256 ≤ l.length then 2 else 6 := by
        rw [hC]
        rcases h2 with q | q | q
        · simp [q]
        · simp [q]
        · unfold anyR at q
          simp [q]
      refine (refput_no r av cap l i x y a b w hR hm hs h2).mono ?_
      rintro e w' ⟨rfl, hB⟩
      have e1 : putL l i x y a b = l := by
        unfold putL
        rw [if_neg]
        rw [e0]
        split
        · decide
        · split <;> decide
      rw [e0, e1]
      exact ⟨rfl, Rt.still h hv hB⟩
    · simp only [not_or, Nat.not_le, Bool.not_eq_true] at h2
      obtain ⟨q1, q2, q3⟩ := h2
      have hg : gOf l i = none := by cases q : gOf l i <;> simp_all
      have e0 : putC l i x y a b = 0 := by
        unfold anyR at q3
        rw [hC]
        simp [q1, q3, Nat.not_le.2 q2]
      rw [putL, e0, if_pos rfl]
      exact refput_yes r _ l i x y a b w h hv hf.sorted q2 hm hs hg q3
end Go.Proofs.Ytkodeopkgmichaa
