/-
  does: an act with both; they tell the same.
-/
import Derived.Test.YtkodeopkgmichaaDoc
import Derived.Test.YtkodeopkgmichaaZcall
import Derived.Test.YtkodeopkgmichaaActs
namespace Go.Proofs.Ytkodeopkgmichaa
open Go.RowKit Go.Shelf
set_option linter.unusedVariables false
set_option linter.unusedSimpArgs false
theorem run_a1 {ev : Operand → Value} {o : Oper} {w : World} {x : Operand} {b : Nat} (ho : o.op = .fieldAddr 36 x 1) (hx : ev x = .pointer (some ⟨b, 0, none⟩)) : (execOp ev o).run Try.prog w = .ok (.value (.pointer (some ⟨b, 1, none⟩))) w := by
  unfold execOp; rw [ho]; simp only [hx]; go_simp
theorem run_a2 {ev : Operand → Value} {o : Oper} {w : World} {x : Operand} {b : Nat} (ho : o.op = .fieldAddr 36 x 2) (hx : ev x = .pointer (some ⟨b, 0, none⟩)) : (execOp ev o).run Try.prog w = .ok (.value (.pointer (some ⟨b, 2, none⟩))) w := by
  unfold execOp; rw [ho]; simp only [hx]; go_simp
theorem run_a0 {ev : Operand → Value} {o : Oper} {w : World} {x : Operand} {b f : Nat} (ho : o.op = .fieldAddr 34 x 0) (hx : ev x = .pointer (some ⟨b, f, none⟩)) : (execOp ev o).run Try.prog w = .ok (.value (.pointer (some ⟨b, f, none⟩))) w := by
  unfold execOp; rw [ho]; simp only [hx]; go_simp
theorem run_i {ev : Operand → Value} {o : Oper} {w : World} {x : Operand} {ad : Addr} {n : Int} (ho : o.op = .load 3 x) (hx : ev x = .pointer (some ad)) (h0 : w.cell? ad = some (.int .i64 n)) : (execOp ev o).run Try.prog w = .ok (.value (.int .i64 n)) w := by
  unfold execOp; rw [ho]; simp only [hx]; go_simp
theorem run_c {ev : Operand → Value} {o : Oper} {w : World} {x : Operand} {b : Nat} {p q : Int} (ho : o.op = .load 32 x) (hx : ev x = .pointer (some ⟨b, 2, none⟩)) (h0 : w.cell? ⟨b, 2, none⟩ = some (.int .i64 p)) (h1 : w.cell? ⟨b, 3, none⟩ = some (.int .i64 q)) : (execOp ev o).run Try.prog w = .ok (.value (cel p q)) w := by
  unfold execOp; rw [ho]; simp only [hx]; go_simp
theorem run_r4 {ev : Operand → Value} {o : Oper} {w : World} {x : Operand} {b : Nat} {p q c d : Int} (ho : o.op = .load 34 x) (hx : ev x = .pointer (some ⟨b, 2, none⟩)) (h0 : w.cell? ⟨b, 2, none⟩ = some (.int .i64 p)) (h1 : w.cell? ⟨b, 3, none⟩ = some (.int .i64 q)) (h2 : w.cell? ⟨b, 4, none⟩ = some (.int .i64 c)) (h3 : w.cell? ⟨b, 5, none⟩ = some (.int .i64 d)) :
    (execOp ev o).run Try.prog w = .ok (.value (rct p q c d)) w := by
  unfold execOp; rw [ho]; simp only [hx]; go_simp
theorem run_eq49 {ev : Operand → Value} {o : Oper} {w : World} {x y : Operand} {n : Int} (ho : o.op = .binOp .eql 49 x y 49) (hx : ev x = .int .i64 n) (hy : ev y = .int .i64 n) : (execOp ev o).run Try.prog w = .ok (.value (.bool true)) w := by
  unfold execOp; rw [ho]; simp only [hx, hy]; go_simp
theorem run_eq4 {ev : Operand → Value} {o : Oper} {w : World} {x y : Operand} {n : Bool} (ho : o.op = .binOp .eql 4 x y 4) (hx : ev x = .bool n) (hy : ev y = .bool n) : (execOp ev o).run Try.prog w = .ok (.value (.bool true)) w := by
  unfold execOp; rw [ho]; simp only [hx, hy]; go_simp
theorem run_as {P : Program} {ev : Operand → Value} {o : Oper} {w : World} {x : Operand} {v : Value} (ho : o.op = .assign x) (hx : ev x = v) : (execOp ev o).run P w = .ok (.value v) w := by
  unfold execOp; rw [ho, ← hx]; rfl
/-- Both indexes side by side, with the same units. -/
structure Du (w : World) (p fm bm m r : Nat) (v : Value) (l : List Bd) : Prop where
  st : St w p fm bm m l
  rx : Rx w r v l
  vr : v.ownBlock ≠ some r
  vfb : ∀ k, v.ownBlock = some k → ¬ (k = fm ∨ k = bm)
  vp : v.ownBlock ≠ some p
  rfb : ¬ (r = fm ∨ r = bm)
  rp : r ≠ p
  fl : fm < w.heap.size
  bl : bm < w.heap.size
theorem Du.kept {w w' : World} {p fm bm m r : Nat} {v : Value} {l : List Bd} (h : Du w p fm bm m r v l) (hB : Below w.heap.size w w') : Du w' p fm bm m r v l :=
  ⟨h.st.kept hB, h.rx.kept hB, h.vr, h.vfb, h.vp, h.rfb, h.rp, Nat.lt_of_lt_of_le h.fl hB.size, Nat.lt_of_lt_of_le h.bl hB.size⟩
/-- The blocks that acts may turn. -/
abbrev Bl (fm bm r : Nat) (k : Nat) : Prop := (k = fm ∨ k = bm) ∨ k = r
theorem Du.next {W w1 w2 : World} {p fm bm m m' r : Nat} {v : Value} {l l' : List Bd} (h : Du W p fm bm m r v l) (hs : St w1 p fm bm m' l') (ht : Tn fm bm W w1) (hr : Rt w1 r v l' w2) :
    ∃ v', Du w2 p fm bm m' r v' l' ∧ Turns (Bl fm bm r) W w2 := by
  obtain ⟨v', hx, t2, ho, hv⟩ := hr
  have hp := h.st.ix.lt
  have h1 := ht.size
  have h2 := t2.size
  have hf := h.fl
  have hb := h.bl
  refine ⟨v', ⟨hs.turned t2 (fun e => h.rp e.symm) (fun e => h.rfb (.inl e.symm)) (fun e => h.rfb (.inr e.symm)), hx, hv, fun k e => ?_, fun e => ?_, h.rfb, h.rp, by omega, by omega⟩, ?_⟩
  · rcases ho k e with q | q
    · exact h.vfb k q
    · omega
  · rcases ho p e with q | q
    · exact h.vp q
    · omega
  · exact (ht.mono (fun k _ e => .inl e)).trans (t2.mono (fun k _ e => .inl (.inr e)))
def Six (w : World) (b : Nat) (t : Ac) : Prop := w.cell? ⟨b, 0, none⟩ = some (.int .i64 t.d) ∧ w.cell? ⟨b, 1, none⟩ = some (.int .i64 t.i) ∧ w.cell? ⟨b, 2, none⟩ = some (.int .i64 t.x) ∧ w.cell? ⟨b, 3, none⟩ = some (.int .i64 t.y) ∧ w.cell? ⟨b, 4, none⟩ = some (.int .i64 t.a) ∧ w.cell? ⟨b, 5, none⟩ = some (.int .i64 t.b)
theorem Six.turned {S : Nat → Prop} {w w' : World} {b : Nat} {t : Ac} (h : Six w b t) (ht : Turns S w w') (hb : ¬ S b) : Six w' b t :=
  ⟨ht.cell hb h.1, ht.cell hb h.2.1, ht.cell hb h.2.2.1, ht.cell hb h.2.2.2.1, ht.cell hb h.2.2.2.2.1, ht.cell hb h.2.2.2.2.2⟩
/-- The box of an act is none of the indexes' blocks. -/
structure Bx (fm bm r b : Nat) : Prop where
  f : b ≠ fm
  m : b ≠ bm
  r : b ≠ r
theorem Bx.six {fm bm r b : Nat} (h : Bx fm bm r b) {w w' : World} {t : Ac} (ht : Tn fm bm w w') (hs : Six w b t) : Six w' b t := hs.turned ht (fun e => e.elim h.f h.m)
theorem Bx.six2 {fm bm r b : Nat} (h : Bx fm bm r b) {w w' : World} {v : Value} {l : List Bd} {t : Ac} (ht : Rt w r v l w') (hs : Six w b t) : Six w' b t := by
  obtain ⟨v', -, t2, -, -⟩ := ht
  exact hs.turned t2 h.r
/-- What an act leaves. -/
def Did (w : World) (p fm bm m r : Nat) (w' : World) : Prop := ∃ m' v' l', m' ≤ m + 16 ∧ Du w' p fm bm m' r v' l' ∧ Turns (Bl fm bm r) w w'
theorem Du.fin {w X w1 w2 : World} {p fm bm m m' r : Nat} {v : Value} {l l' : List Bd} (h : Du X.drew p fm bm m r v l) (hX : Below w.heap.size w X) (hm : m' ≤ m + 16) (hs : St w1 p fm bm m' l') (ht : Tn fm bm X.drew w1) (hr : Rt w1 r v l' w2) : Ending.returned (.bool true) = Ending.returned (.bool true) ∧ Did w p fm bm m r w2 := by
  obtain ⟨v', h1, h2⟩ := h.next hs ht hr
  exact ⟨rfl, m', v', l', hm, h1, (Turns.of_below hX.drew).trans (h2.mono (fun k _ e => .inl e))⟩
theorem ref_free {w : World} {r : Nat} {v : Value} {l : List Bd} (h : Rx w r v l) (hl : l.length ≤ 256) {i x y a b : Int} : Calls Try.prog 21 #[ptr r, rct x y a b, .int .i64 i] w fun e w' => e = .returned (.bool (freeR l i x y a b)) ∧ Below w.heap.size w w' := by
  obtain ⟨av, cap, rfl, -, -, -⟩ := h.us.form
  exact refree_any r av cap l i x y a b w (h.rxr hl)
abbrev Ac.v (t : Ac) : Value := .agg #[.int .i64 t.d, .int .i64 t.i, .int .i64 t.x, .int .i64 t.y, .int .i64 t.a, .int .i64 t.b]
set_option maxRecDepth 100000 in
set_option maxHeartbeats 8000000 in
theorem does_any (p fm bm m r : Nat) (v : Value) (l : List Bd) (t : Ac) (hok : t.ok) (w : World) (h : Du w p fm bm m r v l) (hmm : m + 16 < maxLen) :
    Calls Try.prog 9 #[ptr p, ptr r, t.v] w fun e w' => e = .returned (.bool true) ∧ Did w p fm bm m r w' := by
  obtain ⟨X, hX⟩ : ∃ X, w.alloc (.cells #[.int .i64 t.d, .int .i64 t.i, .int .i64 t.x, .int .i64 t.y, .int .i64 t.a, .int .i64 t.b] 36) = X := ⟨_, rfl⟩
  have B0 : Below w.heap.size w X := hX ▸ box1 _ _
  have hb : X.heap[w.heap.size]? = some (.cells #[.int .i64 t.d, .int .i64 t.i, .int .i64 t.x, .int .i64 t.y, .int .i64 t.a, .int .i64 t.b] 36) := hX ▸ heap_alloc_new w _
  have S0 : Six X w.heap.size t := ⟨cell_of_row _ _ 0 _ _ _ hb, cell_of_row _ _ 1 _ _ _ hb, cell_of_row _ _ 2 _ _ _ hb, cell_of_row _ _ 3 _ _ _ hb, cell_of_row _ _ 4 _ _ _ hb, cell_of_row _ _ 5 _ _ _ hb⟩
  have H : Hid (Du X.drew p fm bm m r v l) := hide (h.kept B0.drew)
  have HS : Hid (Six X.drew w.heap.size t) := hide S0
  have HB : Hid (Bx fm bm r w.heap.size) := hide ⟨by have := h.fl; omega, by have := h.bl; omega, by have := h.rx.lt; omega⟩
  have HX := hide B0
  have c0 := S0.1
  clear S0 hb B0 h
  by_cases d1 : Int.tmod t.d 4 = 1
  · have e1 : decide (Int.tmod t.d 4 = 1) = true := by simpa using d1
    go_enter Try.func9, Try.ntmps9
    go_wp2_with (rw [hX])
    refine wp_region_z (fun Z : World => Z.cell? ⟨w.heap.size, 0, none⟩ = some (.int .i64 t.d) ∧ Z.cell? ⟨w.heap.size, 1, none⟩ = some (.int .i64 t.i) ∧ Z.cell? ⟨w.heap.size, 2, none⟩ = some (.int .i64 t.x) ∧ Z.cell? ⟨w.heap.size, 3, none⟩ = some (.int .i64 t.y) ∧ Z.cell? ⟨w.heap.size, 4, none⟩ = some (.int .i64 t.a) ∧ Z.cell? ⟨w.heap.size, 5, none⟩ = some (.int .i64 t.b)) 15 (by kernel_rfl) ?_
    refine anyZ_take 0 8 (v := ptr p) rfl (by kernel_rfl) (fun _ _ _ h => h) (Or.inl ⟨by rfl, fun wx hx => run_mv (by rfl) (by rfl)⟩) HS.out ?_
    try simp only [Act.put, List.getElem_toArray, List.getElem_cons_zero, List.getElem_cons_succ, List.setIfInBounds_toArray, List.set_cons_zero, List.set_cons_succ]
    refine anyZ_take 1 8 (v := .pointer (some ⟨w.heap.size, 1, none⟩)) rfl (by kernel_rfl) (fun _ _ _ h => h) (Or.inl ⟨by rfl, fun wx hx => run_a1 (by rfl) (by rfl)⟩) HS.out ?_
    try simp only [Act.put, List.getElem_toArray, List.getElem_cons_zero, List.getElem_cons_succ, List.setIfInBounds_toArray, List.set_cons_zero, List.set_cons_succ]
    refine anyZ_take 2 8 (v := .int .i64 t.i) rfl (by kernel_rfl) (fun _ _ _ h => h) (Or.inl ⟨by rfl, fun wx hx => run_i (by rfl) (by rfl) hx.2.1⟩) HS.out ?_
    try simp only [Act.put, List.getElem_toArray, List.getElem_cons_zero, List.getElem_cons_succ, List.setIfInBounds_toArray, List.set_cons_zero, List.set_cons_succ]
    refine anyZ_take 3 8 (v := .pointer (some ⟨w.heap.size, 2, none⟩)) rfl (by kernel_rfl) (fun _ _ _ h => h) (Or.inl ⟨by rfl, fun wx hx => run_a2 (by rfl) (by rfl)⟩) HS.out ?_
    try simp only [Act.put, List.getElem_toArray, List.getElem_cons_zero, List.getElem_cons_succ, List.setIfInBounds_toArray, List.set_cons_zero, List.set_cons_succ]
    refine anyZ_take 4 8 (v := .pointer (some ⟨w.heap.size, 2, none⟩)) rfl (by kernel_rfl) (fun _ _ _ h => h) (Or.inl ⟨by rfl, fun wx hx => run_a0 (by rfl) (by rfl)⟩) HS.out ?_
    try simp only [Act.put, List.getElem_toArray, List.getElem_cons_zero, List.getElem_cons_succ, List.setIfInBounds_toArray, List.set_cons_zero, List.set_cons_succ]
    refine anyZ_take 5 8 (v := cel t.x t.y) rfl (by kernel_rfl) (fun _ _ _ h => h) (Or.inl ⟨by rfl, fun wx hx => run_c (by rfl) (by rfl) hx.2.2.1 hx.2.2.2.1⟩) HS.out ?_
    try simp only [Act.put, List.getElem_toArray, List.getElem_cons_zero, List.getElem_cons_succ, List.setIfInBounds_toArray, List.set_cons_zero, List.set_cons_succ]
    refine anyZ_take 7 8 (v := ptr r) rfl (by kernel_rfl) (fun _ _ _ h => h) (Or.inl ⟨by rfl, fun wx hx => run_mv (by rfl) (by rfl)⟩) HS.out ?_
    try simp only [Act.put, List.getElem_toArray, List.getElem_cons_zero, List.getElem_cons_succ, List.setIfInBounds_toArray, List.set_cons_zero, List.set_cons_succ]
    refine anyZ_take 8 8 (v := .pointer (some ⟨w.heap.size, 1, none⟩)) rfl (by kernel_rfl) (fun _ _ _ h => h) (Or.inl ⟨by rfl, fun wx hx => run_a1 (by rfl) (by rfl)⟩) HS.out ?_
    try simp only [Act.put, List.getElem_toArray, List.getElem_cons_zero, List.getElem_cons_succ, List.setIfInBounds_toArray, List.set_cons_zero, List.set_cons_succ]
    refine anyZ_take 9 8 (v := .int .i64 t.i) rfl (by kernel_rfl) (fun _ _ _ h => h) (Or.inl ⟨by rfl, fun wx hx => run_i (by rfl) (by rfl) hx.2.1⟩) HS.out ?_
    try simp only [Act.put, List.getElem_toArray, List.getElem_cons_zero, List.getElem_cons_succ, List.setIfInBounds_toArray, List.set_cons_zero, List.set_cons_succ]
    refine anyZ_take 10 8 (v := .pointer (some ⟨w.heap.size, 2, none⟩)) rfl (by kernel_rfl) (fun _ _ _ h => h) (Or.inl ⟨by rfl, fun wx hx => run_a2 (by rfl) (by rfl)⟩) HS.out ?_
    try simp only [Act.put, List.getElem_toArray, List.getElem_cons_zero, List.getElem_cons_succ, List.setIfInBounds_toArray, List.set_cons_zero, List.set_cons_succ]
    refine anyZ_take 11 8 (v := .pointer (some ⟨w.heap.size, 2, none⟩)) rfl (by kernel_rfl) (fun _ _ _ h => h) (Or.inl ⟨by rfl, fun wx hx => run_a0 (by rfl) (by rfl)⟩) HS.out ?_
    try simp only [Act.put, List.getElem_toArray, List.getElem_cons_zero, List.getElem_cons_succ, List.setIfInBounds_toArray, List.set_cons_zero, List.set_cons_succ]
    refine anyZ_take 12 8 (v := cel t.x t.y) rfl (by kernel_rfl) (fun _ _ _ h => h) (Or.inl ⟨by rfl, fun wx hx => run_c (by rfl) (by rfl) hx.2.2.1 hx.2.2.2.1⟩) HS.out ?_
    try simp only [Act.put, List.getElem_toArray, List.getElem_cons_zero, List.getElem_cons_succ, List.setIfInBounds_toArray, List.set_cons_zero, List.set_cons_succ]
    refine anyZ_ready (rs := [6]) (by kernel_rfl) (by simp) ?_
    refine readyZ.call rfl rfl (run_call17 (by rfl) (by rfl) (by simp only [List.map_toArray, List.map_cons, List.map_nil]; rfl)) (move_st (x := t.x) (y := t.y) H.out.st hok.2.1 hmm) ?_ readyZ.nil
    rintro e w1 ⟨rfl, ⟨m1, hm1, s1⟩, t1⟩
    have hS1 := HB.out.six t1 HS.out
    have x1 := H.out.rx.turned t1 H.out.rfb H.out.vfb
    refine ⟨_, rfl, fun _ => hS1, ?_⟩
    try simp only [Act.put, List.getElem_toArray, List.getElem_cons_zero, List.getElem_cons_succ, List.setIfInBounds_toArray, List.set_cons_zero, List.set_cons_succ]
    refine anyZ_ready (rs := [13]) (by kernel_rfl) (by simp) ?_
    refine readyZ.call rfl rfl (run_call24 (by rfl) (by rfl) (by simp only [List.map_toArray, List.map_cons, List.map_nil]; rfl)) (refmove_any r v l t.i t.x t.y w1 x1 H.out.vr H.out.st.fine) ?_ readyZ.nil
    rintro e w2 ⟨rfl, rt⟩
    have hS2 := HB.out.six2 rt hS1
    refine ⟨_, rfl, fun _ => hS2, ?_⟩
    try simp only [Act.put, List.getElem_toArray, List.getElem_cons_zero, List.getElem_cons_succ, List.setIfInBounds_toArray, List.set_cons_zero, List.set_cons_succ]
    refine anyZ_ready (rs := [14]) (by kernel_rfl) (by simp) ?_
    refine readyZ.cons rfl rfl (run_eq49 (by rfl) (by rfl) (by rfl)) (fun _ => hS2) ?_ readyZ.nil
    try simp only [Act.put, List.getElem_toArray, List.getElem_cons_zero, List.getElem_cons_succ, List.setIfInBounds_toArray, List.set_cons_zero, List.set_cons_succ]
    refine anyZ_ready (rs := [15]) (by kernel_rfl) (by simp) ?_
    refine readyZ.cons rfl rfl (run_as (by rfl) (by rfl)) (fun h => absurd rfl h) ?_ readyZ.nil
    try simp only [Act.put, List.getElem_toArray, List.getElem_cons_zero, List.getElem_cons_succ, List.setIfInBounds_toArray, List.set_cons_zero, List.set_cons_succ]
    refine anyZ_done (by kernel_rfl) ?_ _
    go_wp2_with fail
    go_ret
    exact H.out.fin HX.out hm1 s1 t1 rt
  have e1 : decide (Int.tmod t.d 4 = 1) = false := by simpa using d1
  by_cases d2 : Int.tmod t.d 4 = 2
  · have e2 : decide (Int.tmod t.d 4 = 2) = true := by simpa using d2
    go_enter Try.func9, Try.ntmps9
    go_wp2_with (rw [hX])
    refine wp_region_z (fun Z : World => Z.cell? ⟨w.heap.size, 0, none⟩ = some (.int .i64 t.d) ∧ Z.cell? ⟨w.heap.size, 1, none⟩ = some (.int .i64 t.i) ∧ Z.cell? ⟨w.heap.size, 2, none⟩ = some (.int .i64 t.x) ∧ Z.cell? ⟨w.heap.size, 3, none⟩ = some (.int .i64 t.y) ∧ Z.cell? ⟨w.heap.size, 4, none⟩ = some (.int .i64 t.a) ∧ Z.cell? ⟨w.heap.size, 5, none⟩ = some (.int .i64 t.b)) 9 (by kernel_rfl) ?_
    refine anyZ_take 0 8 (v := ptr p) rfl (by kernel_rfl) (fun _ _ _ h => h) (Or.inl ⟨by rfl, fun wx hx => run_mv (by rfl) (by rfl)⟩) HS.out ?_
    try simp only [Act.put, List.getElem_toArray, List.getElem_cons_zero, List.getElem_cons_succ, List.setIfInBounds_toArray, List.set_cons_zero, List.set_cons_succ]
    refine anyZ_take 1 8 (v := .pointer (some ⟨w.heap.size, 1, none⟩)) rfl (by kernel_rfl) (fun _ _ _ h => h) (Or.inl ⟨by rfl, fun wx hx => run_a1 (by rfl) (by rfl)⟩) HS.out ?_
    try simp only [Act.put, List.getElem_toArray, List.getElem_cons_zero, List.getElem_cons_succ, List.setIfInBounds_toArray, List.set_cons_zero, List.set_cons_succ]
    refine anyZ_take 2 8 (v := .int .i64 t.i) rfl (by kernel_rfl) (fun _ _ _ h => h) (Or.inl ⟨by rfl, fun wx hx => run_i (by rfl) (by rfl) hx.2.1⟩) HS.out ?_
    try simp only [Act.put, List.getElem_toArray, List.getElem_cons_zero, List.getElem_cons_succ, List.setIfInBounds_toArray, List.set_cons_zero, List.set_cons_succ]
    refine anyZ_take 4 8 (v := ptr r) rfl (by kernel_rfl) (fun _ _ _ h => h) (Or.inl ⟨by rfl, fun wx hx => run_mv (by rfl) (by rfl)⟩) HS.out ?_
    try simp only [Act.put, List.getElem_toArray, List.getElem_cons_zero, List.getElem_cons_succ, List.setIfInBounds_toArray, List.set_cons_zero, List.set_cons_succ]
    refine anyZ_take 5 8 (v := .pointer (some ⟨w.heap.size, 1, none⟩)) rfl (by kernel_rfl) (fun _ _ _ h => h) (Or.inl ⟨by rfl, fun wx hx => run_a1 (by rfl) (by rfl)⟩) HS.out ?_
    try simp only [Act.put, List.getElem_toArray, List.getElem_cons_zero, List.getElem_cons_succ, List.setIfInBounds_toArray, List.set_cons_zero, List.set_cons_succ]
    refine anyZ_take 6 8 (v := .int .i64 t.i) rfl (by kernel_rfl) (fun _ _ _ h => h) (Or.inl ⟨by rfl, fun wx hx => run_i (by rfl) (by rfl) hx.2.1⟩) HS.out ?_
    try simp only [Act.put, List.getElem_toArray, List.getElem_cons_zero, List.getElem_cons_succ, List.setIfInBounds_toArray, List.set_cons_zero, List.set_cons_succ]
    refine anyZ_ready (rs := [3]) (by kernel_rfl) (by simp) ?_
    refine readyZ.call rfl rfl (run_call18 (by rfl) (by rfl) (by simp only [List.map_toArray, List.map_cons, List.map_nil]; rfl)) (take_st H.out.st hok.2.1) ?_ readyZ.nil
    rintro e w1 ⟨rfl, s1, t1⟩
    have hS1 := HB.out.six t1 HS.out
    have x1 := H.out.rx.turned t1 H.out.rfb H.out.vfb
    refine ⟨_, rfl, fun _ => hS1, ?_⟩
    try simp only [Act.put, List.getElem_toArray, List.getElem_cons_zero, List.getElem_cons_succ, List.setIfInBounds_toArray, List.set_cons_zero, List.set_cons_succ]
    refine anyZ_ready (rs := [7]) (by kernel_rfl) (by simp) ?_
    refine readyZ.call rfl rfl (run_call25 (by rfl) (by rfl) (by simp only [List.map_toArray, List.map_cons, List.map_nil]; rfl)) (reftake_any r v l t.i w1 x1 H.out.vr H.out.st.fine) ?_ readyZ.nil
    rintro e w2 ⟨rfl, rt⟩
    have hS2 := HB.out.six2 rt hS1
    refine ⟨_, rfl, fun _ => hS2, ?_⟩
    try simp only [Act.put, List.getElem_toArray, List.getElem_cons_zero, List.getElem_cons_succ, List.setIfInBounds_toArray, List.set_cons_zero, List.set_cons_succ]
    refine anyZ_ready (rs := [8]) (by kernel_rfl) (by simp) ?_
    refine readyZ.cons rfl rfl (run_eq49 (by rfl) (by rfl) (by rfl)) (fun _ => hS2) ?_ readyZ.nil
    try simp only [Act.put, List.getElem_toArray, List.getElem_cons_zero, List.getElem_cons_succ, List.setIfInBounds_toArray, List.set_cons_zero, List.set_cons_succ]
    refine anyZ_ready (rs := [9]) (by kernel_rfl) (by simp) ?_
    refine readyZ.cons rfl rfl (run_as (by rfl) (by rfl)) (fun h => absurd rfl h) ?_ readyZ.nil
    try simp only [Act.put, List.getElem_toArray, List.getElem_cons_zero, List.getElem_cons_succ, List.setIfInBounds_toArray, List.set_cons_zero, List.set_cons_succ]
    refine anyZ_done (by kernel_rfl) ?_ _
    go_wp2_with fail
    go_ret
    exact H.out.fin HX.out (Nat.le_add_right m 16) s1 t1 rt
  have e2 : decide (Int.tmod t.d 4 = 2) = false := by simpa using d2
  by_cases d3 : Int.tmod t.d 4 = 3
  · have e3 : decide (Int.tmod t.d 4 = 3) = true := by simpa using d3
    go_enter Try.func9, Try.ntmps9
    go_wp2_with (rw [hX])
    refine wp_region_z (fun Z : World => Z.cell? ⟨w.heap.size, 0, none⟩ = some (.int .i64 t.d) ∧ Z.cell? ⟨w.heap.size, 1, none⟩ = some (.int .i64 t.i) ∧ Z.cell? ⟨w.heap.size, 2, none⟩ = some (.int .i64 t.x) ∧ Z.cell? ⟨w.heap.size, 3, none⟩ = some (.int .i64 t.y) ∧ Z.cell? ⟨w.heap.size, 4, none⟩ = some (.int .i64 t.a) ∧ Z.cell? ⟨w.heap.size, 5, none⟩ = some (.int .i64 t.b)) 13 (by kernel_rfl) ?_
    refine anyZ_take 0 8 (v := ptr p) rfl (by kernel_rfl) (fun _ _ _ h => h) (Or.inl ⟨by rfl, fun wx hx => run_mv (by rfl) (by rfl)⟩) HS.out ?_
    try simp only [Act.put, List.getElem_toArray, List.getElem_cons_zero, List.getElem_cons_succ, List.setIfInBounds_toArray, List.set_cons_zero, List.set_cons_succ]
    refine anyZ_take 1 8 (v := .pointer (some ⟨w.heap.size, 2, none⟩)) rfl (by kernel_rfl) (fun _ _ _ h => h) (Or.inl ⟨by rfl, fun wx hx => run_a2 (by rfl) (by rfl)⟩) HS.out ?_
    try simp only [Act.put, List.getElem_toArray, List.getElem_cons_zero, List.getElem_cons_succ, List.setIfInBounds_toArray, List.set_cons_zero, List.set_cons_succ]
    refine anyZ_take 2 8 (v := rct t.x t.y t.a t.b) rfl (by kernel_rfl) (fun _ _ _ h => h) (Or.inl ⟨by rfl, fun wx hx => run_r4 (by rfl) (by rfl) hx.2.2.1 hx.2.2.2.1 hx.2.2.2.2.1 hx.2.2.2.2.2⟩) HS.out ?_
    try simp only [Act.put, List.getElem_toArray, List.getElem_cons_zero, List.getElem_cons_succ, List.setIfInBounds_toArray, List.set_cons_zero, List.set_cons_succ]
    refine anyZ_take 3 8 (v := .pointer (some ⟨w.heap.size, 1, none⟩)) rfl (by kernel_rfl) (fun _ _ _ h => h) (Or.inl ⟨by rfl, fun wx hx => run_a1 (by rfl) (by rfl)⟩) HS.out ?_
    try simp only [Act.put, List.getElem_toArray, List.getElem_cons_zero, List.getElem_cons_succ, List.setIfInBounds_toArray, List.set_cons_zero, List.set_cons_succ]
    refine anyZ_take 4 8 (v := .int .i64 t.i) rfl (by kernel_rfl) (fun _ _ _ h => h) (Or.inl ⟨by rfl, fun wx hx => run_i (by rfl) (by rfl) hx.2.1⟩) HS.out ?_
    try simp only [Act.put, List.getElem_toArray, List.getElem_cons_zero, List.getElem_cons_succ, List.setIfInBounds_toArray, List.set_cons_zero, List.set_cons_succ]
    refine anyZ_take 6 8 (v := ptr r) rfl (by kernel_rfl) (fun _ _ _ h => h) (Or.inl ⟨by rfl, fun wx hx => run_mv (by rfl) (by rfl)⟩) HS.out ?_
    try simp only [Act.put, List.getElem_toArray, List.getElem_cons_zero, List.getElem_cons_succ, List.setIfInBounds_toArray, List.set_cons_zero, List.set_cons_succ]
    refine anyZ_take 7 8 (v := .pointer (some ⟨w.heap.size, 2, none⟩)) rfl (by kernel_rfl) (fun _ _ _ h => h) (Or.inl ⟨by rfl, fun wx hx => run_a2 (by rfl) (by rfl)⟩) HS.out ?_
    try simp only [Act.put, List.getElem_toArray, List.getElem_cons_zero, List.getElem_cons_succ, List.setIfInBounds_toArray, List.set_cons_zero, List.set_cons_succ]
    refine anyZ_take 8 8 (v := rct t.x t.y t.a t.b) rfl (by kernel_rfl) (fun _ _ _ h => h) (Or.inl ⟨by rfl, fun wx hx => run_r4 (by rfl) (by rfl) hx.2.2.1 hx.2.2.2.1 hx.2.2.2.2.1 hx.2.2.2.2.2⟩) HS.out ?_
    try simp only [Act.put, List.getElem_toArray, List.getElem_cons_zero, List.getElem_cons_succ, List.setIfInBounds_toArray, List.set_cons_zero, List.set_cons_succ]
    refine anyZ_take 9 8 (v := .pointer (some ⟨w.heap.size, 1, none⟩)) rfl (by kernel_rfl) (fun _ _ _ h => h) (Or.inl ⟨by rfl, fun wx hx => run_a1 (by rfl) (by rfl)⟩) HS.out ?_
    try simp only [Act.put, List.getElem_toArray, List.getElem_cons_zero, List.getElem_cons_succ, List.setIfInBounds_toArray, List.set_cons_zero, List.set_cons_succ]
    refine anyZ_take 10 8 (v := .int .i64 t.i) rfl (by kernel_rfl) (fun _ _ _ h => h) (Or.inl ⟨by rfl, fun wx hx => run_i (by rfl) (by rfl) hx.2.1⟩) HS.out ?_
    try simp only [Act.put, List.getElem_toArray, List.getElem_cons_zero, List.getElem_cons_succ, List.setIfInBounds_toArray, List.set_cons_zero, List.set_cons_succ]
    refine anyZ_ready (rs := [5]) (by kernel_rfl) (by simp) ?_
    refine readyZ.call rfl rfl (run_call22 (by rfl) (by rfl) (by simp only [List.map_toArray, List.map_cons, List.map_nil]; rfl)) (free_st (i := t.i) (x := t.x) (y := t.y) (a := t.a) (b := t.b) H.out.st) ?_ readyZ.nil
    rintro e w1 ⟨rfl, b1⟩
    have s1 := H.out.st.kept b1
    have t1 : Tn fm bm X.drew w1 := Turns.of_below b1
    have hS1 := HB.out.six t1 HS.out
    have x1 := H.out.rx.turned t1 H.out.rfb H.out.vfb
    refine ⟨_, rfl, fun _ => hS1, ?_⟩
    try simp only [Act.put, List.getElem_toArray, List.getElem_cons_zero, List.getElem_cons_succ, List.setIfInBounds_toArray, List.set_cons_zero, List.set_cons_succ]
    refine anyZ_ready (rs := [11]) (by kernel_rfl) (by simp) ?_
    refine readyZ.call rfl rfl (run_call21 (by rfl) (by rfl) (by simp only [List.map_toArray, List.map_cons, List.map_nil]; rfl)) (ref_free (i := t.i) (x := t.x) (y := t.y) (a := t.a) (b := t.b) x1 H.out.st.fine.len) ?_ readyZ.nil
    rintro e w2 ⟨rfl, b2⟩
    have rt : Rt w1 r v l w2 := Rt.still x1 H.out.vr b2
    have hS2 := HB.out.six2 rt hS1
    refine ⟨_, rfl, fun _ => hS2, ?_⟩
    try simp only [Act.put, List.getElem_toArray, List.getElem_cons_zero, List.getElem_cons_succ, List.setIfInBounds_toArray, List.set_cons_zero, List.set_cons_succ]
    refine anyZ_ready (rs := [12]) (by kernel_rfl) (by simp) ?_
    refine readyZ.cons rfl rfl (run_eq4 (by rfl) (by rfl) (by rfl)) (fun _ => hS2) ?_ readyZ.nil
    try simp only [Act.put, List.getElem_toArray, List.getElem_cons_zero, List.getElem_cons_succ, List.setIfInBounds_toArray, List.set_cons_zero, List.set_cons_succ]
    refine anyZ_ready (rs := [13]) (by kernel_rfl) (by simp) ?_
    refine readyZ.cons rfl rfl (run_as (by rfl) (by rfl)) (fun h => absurd rfl h) ?_ readyZ.nil
    try simp only [Act.put, List.getElem_toArray, List.getElem_cons_zero, List.getElem_cons_succ, List.setIfInBounds_toArray, List.set_cons_zero, List.set_cons_succ]
    refine anyZ_done (by kernel_rfl) ?_ _
    go_wp2_with fail
    go_ret
    exact H.out.fin HX.out (Nat.le_add_right m 16) s1 t1 rt
  have e3 : decide (Int.tmod t.d 4 = 3) = false := by simpa using d3
  go_enter Try.func9, Try.ntmps9
  go_wp2_with (rw [hX])
  refine wp_region_z (fun Z : World => Z.cell? ⟨w.heap.size, 0, none⟩ = some (.int .i64 t.d) ∧ Z.cell? ⟨w.heap.size, 1, none⟩ = some (.int .i64 t.i) ∧ Z.cell? ⟨w.heap.size, 2, none⟩ = some (.int .i64 t.x) ∧ Z.cell? ⟨w.heap.size, 3, none⟩ = some (.int .i64 t.y) ∧ Z.cell? ⟨w.heap.size, 4, none⟩ = some (.int .i64 t.a) ∧ Z.cell? ⟨w.heap.size, 5, none⟩ = some (.int .i64 t.b)) 13 (by kernel_rfl) ?_
  refine anyZ_take 0 8 (v := ptr p) rfl (by kernel_rfl) (fun _ _ _ h => h) (Or.inl ⟨by rfl, fun wx hx => run_mv (by rfl) (by rfl)⟩) HS.out ?_
  try simp only [Act.put, List.getElem_toArray, List.getElem_cons_zero, List.getElem_cons_succ, List.setIfInBounds_toArray, List.set_cons_zero, List.set_cons_succ]
  refine anyZ_take 1 8 (v := .pointer (some ⟨w.heap.size, 1, none⟩)) rfl (by kernel_rfl) (fun _ _ _ h => h) (Or.inl ⟨by rfl, fun wx hx => run_a1 (by rfl) (by rfl)⟩) HS.out ?_
  try simp only [Act.put, List.getElem_toArray, List.getElem_cons_zero, List.getElem_cons_succ, List.setIfInBounds_toArray, List.set_cons_zero, List.set_cons_succ]
  refine anyZ_take 2 8 (v := .int .i64 t.i) rfl (by kernel_rfl) (fun _ _ _ h => h) (Or.inl ⟨by rfl, fun wx hx => run_i (by rfl) (by rfl) hx.2.1⟩) HS.out ?_
  try simp only [Act.put, List.getElem_toArray, List.getElem_cons_zero, List.getElem_cons_succ, List.setIfInBounds_toArray, List.set_cons_zero, List.set_cons_succ]
  refine anyZ_take 3 8 (v := .pointer (some ⟨w.heap.size, 2, none⟩)) rfl (by kernel_rfl) (fun _ _ _ h => h) (Or.inl ⟨by rfl, fun wx hx => run_a2 (by rfl) (by rfl)⟩) HS.out ?_
  try simp only [Act.put, List.getElem_toArray, List.getElem_cons_zero, List.getElem_cons_succ, List.setIfInBounds_toArray, List.set_cons_zero, List.set_cons_succ]
  refine anyZ_take 4 8 (v := rct t.x t.y t.a t.b) rfl (by kernel_rfl) (fun _ _ _ h => h) (Or.inl ⟨by rfl, fun wx hx => run_r4 (by rfl) (by rfl) hx.2.2.1 hx.2.2.2.1 hx.2.2.2.2.1 hx.2.2.2.2.2⟩) HS.out ?_
  try simp only [Act.put, List.getElem_toArray, List.getElem_cons_zero, List.getElem_cons_succ, List.setIfInBounds_toArray, List.set_cons_zero, List.set_cons_succ]
  refine anyZ_take 6 8 (v := ptr r) rfl (by kernel_rfl) (fun _ _ _ h => h) (Or.inl ⟨by rfl, fun wx hx => run_mv (by rfl) (by rfl)⟩) HS.out ?_
  try simp only [Act.put, List.getElem_toArray, List.getElem_cons_zero, List.getElem_cons_succ, List.setIfInBounds_toArray, List.set_cons_zero, List.set_cons_succ]
  refine anyZ_take 7 8 (v := .pointer (some ⟨w.heap.size, 1, none⟩)) rfl (by kernel_rfl) (fun _ _ _ h => h) (Or.inl ⟨by rfl, fun wx hx => run_a1 (by rfl) (by rfl)⟩) HS.out ?_
  try simp only [Act.put, List.getElem_toArray, List.getElem_cons_zero, List.getElem_cons_succ, List.setIfInBounds_toArray, List.set_cons_zero, List.set_cons_succ]
  refine anyZ_take 8 8 (v := .int .i64 t.i) rfl (by kernel_rfl) (fun _ _ _ h => h) (Or.inl ⟨by rfl, fun wx hx => run_i (by rfl) (by rfl) hx.2.1⟩) HS.out ?_
  try simp only [Act.put, List.getElem_toArray, List.getElem_cons_zero, List.getElem_cons_succ, List.setIfInBounds_toArray, List.set_cons_zero, List.set_cons_succ]
  refine anyZ_take 9 8 (v := .pointer (some ⟨w.heap.size, 2, none⟩)) rfl (by kernel_rfl) (fun _ _ _ h => h) (Or.inl ⟨by rfl, fun wx hx => run_a2 (by rfl) (by rfl)⟩) HS.out ?_
  try simp only [Act.put, List.getElem_toArray, List.getElem_cons_zero, List.getElem_cons_succ, List.setIfInBounds_toArray, List.set_cons_zero, List.set_cons_succ]
  refine anyZ_take 10 8 (v := rct t.x t.y t.a t.b) rfl (by kernel_rfl) (fun _ _ _ h => h) (Or.inl ⟨by rfl, fun wx hx => run_r4 (by rfl) (by rfl) hx.2.2.1 hx.2.2.2.1 hx.2.2.2.2.1 hx.2.2.2.2.2⟩) HS.out ?_
  try simp only [Act.put, List.getElem_toArray, List.getElem_cons_zero, List.getElem_cons_succ, List.setIfInBounds_toArray, List.set_cons_zero, List.set_cons_succ]
  refine anyZ_ready (rs := [5]) (by kernel_rfl) (by simp) ?_
  refine readyZ.call rfl rfl (run_call19 (by rfl) (by rfl) (by simp only [List.map_toArray, List.map_cons, List.map_nil]; rfl)) (put_st (x := t.x) (y := t.y) (a := t.a) (b := t.b) H.out.st hok.2.1 hmm) ?_ readyZ.nil
  rintro e w1 ⟨rfl, ⟨m1, hm1, s1⟩, t1⟩
  have hS1 := HB.out.six t1 HS.out
  have x1 := H.out.rx.turned t1 H.out.rfb H.out.vfb
  refine ⟨_, rfl, fun _ => hS1, ?_⟩
  try simp only [Act.put, List.getElem_toArray, List.getElem_cons_zero, List.getElem_cons_succ, List.setIfInBounds_toArray, List.set_cons_zero, List.set_cons_succ]
  refine anyZ_ready (rs := [11]) (by kernel_rfl) (by simp) ?_
  refine readyZ.call rfl rfl (run_call26 (by rfl) (by rfl) (by simp only [List.map_toArray, List.map_cons, List.map_nil]; rfl)) (refput_any r v l t.i t.x t.y t.a t.b w1 x1 H.out.vr H.out.st.fine) ?_ readyZ.nil
  rintro e w2 ⟨rfl, rt⟩
  have hS2 := HB.out.six2 rt hS1
  refine ⟨_, rfl, fun _ => hS2, ?_⟩
  try simp only [Act.put, List.getElem_toArray, List.getElem_cons_zero, List.getElem_cons_succ, List.setIfInBounds_toArray, List.set_cons_zero, List.set_cons_succ]
  refine anyZ_ready (rs := [12]) (by kernel_rfl) (by simp) ?_
  refine readyZ.cons rfl rfl (run_eq49 (by rfl) (by rfl) (by rfl)) (fun _ => hS2) ?_ readyZ.nil
  try simp only [Act.put, List.getElem_toArray, List.getElem_cons_zero, List.getElem_cons_succ, List.setIfInBounds_toArray, List.set_cons_zero, List.set_cons_succ]
  refine anyZ_ready (rs := [13]) (by kernel_rfl) (by simp) ?_
  refine readyZ.cons rfl rfl (run_as (by rfl) (by rfl)) (fun h => absurd rfl h) ?_ readyZ.nil
  try simp only [Act.put, List.getElem_toArray, List.getElem_cons_zero, List.getElem_cons_succ, List.setIfInBounds_toArray, List.set_cons_zero, List.set_cons_succ]
  refine anyZ_done (by kernel_rfl) ?_ _
  go_wp2_with fail
  go_ret
  exact H.out.fin HX.out hm1 s1 t1 rt
end Go.Proofs.Ytkodeopkgmichaa
