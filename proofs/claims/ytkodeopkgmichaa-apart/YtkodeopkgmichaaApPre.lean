/-
  What OccupyApart keeps.
-/
import Derived.Test.YtkodeopkgmichaaDoes
import Derived.Test.YtkodeopkgmichaaActsW
namespace Go.Proofs.Ytkodeopkgmichaa
open Go.RowKit Go.Shelf
set_option linter.unusedVariables false
set_option linter.unusedSimpArgs false
abbrev mark (D : Nat) : Deferred := { target := .collected D, args := #[] }
theorem leave_marks {n : Nat} {fn : Func} {tmps : Array Value} {R : Ending → World → Prop} {c : Nat} (Jp : World → Prop) (hst : ∀ X D, c ≤ D → X.heap[D]? = some (.deferred (some [])) → Jp X → Jp (X.putObj D (.deferred none)))
    (hend : ∀ X, Jp X → LeavesInM Fence.wide n Try.prog fn tmps R [] .returning X) : ∀ (Ds : List Nat) (X : World), Ds.Nodup → (∀ D ∈ Ds, c ≤ D ∧ X.heap[D]? = some (.deferred (some []))) → Jp X → LeavesInM Fence.wide n Try.prog fn tmps R (Ds.map mark) .returning X
  | [], X, _, _, h => hend X h
  | D :: Ds, X, hnd, hD, h => by
    have hn := List.nodup_cons.1 hnd
    refine ⟨by simp, .inl ⟨D, _, rfl, run_takeDeferred (hD D (by simp)).2, ?_⟩⟩
    refine leave_marks Jp hst hend Ds _ hn.2 (fun D' hD' => ⟨(hD D' (by simp [hD'])).1, ?_⟩) (hst X D (hD D (by simp)).1 (hD D (by simp)).2 h)
    rw [World.putObj_heap_other (by rintro rfl; exact hn.1 hD')]
    exact (hD D' (by simp [hD'])).2
theorem wpIn_only {F : Fence} {m : Nat} {c : Code} {Q : Exit → Act → World → Prop} {a : Act} {w : World} (h : c.wpIn F m Try.prog (Only (fun a' w' => Q .normal a' w')) a w) : c.wpIn F m Try.prog Q a w := by
  refine Code.wpIn_mono ?_ h
  rintro (_ | _ | _ | _ | _) a' w' hO
  all_goals first | exact hO.elim | exact hO
theorem wpIn_region_zR (S : World → Prop) (z : Nat) {n l : Nat} {P : Program} {id : Nat} {Q : Exit → Act → World → Prop} {a : Act} {w : World} {L : List Oper} (hno : ¬ LetsOut Q) (hm : P.follows .mixedOrders = true) (hd : noDefer L = true)
    (h : anyZ P .any L.toArray Q S z L.toArray.size (Array.replicate L.toArray.size false) a w.drew) : (Code.region id L.toArray true).wpIn (Fence.wide.inRound l) n P Q a w :=
  wpIn_region_any hm (wpAny_in hno (fun i o ho => noDefer_at hd ho) _ _ _ _ (any_of_anyZ _ _ _ _ h))
theorem mkU (T : Array Value) (D : List Deferred) (F : (Nat → Value) → Act) (h : ({ tmps := T, defers := D } : Act) = F (fun n => T.getD n undef)) : ∃ u : Nat → Value, ({ tmps := T, defers := D } : Act) = F u := ⟨_, h⟩
theorem run_idx22 {ev : Operand → Value} {o : Oper} {w : World} {x t : Operand} {g f n cap k : Nat} (ho : o.op = .indexAddr 22 x t) (hx : ev x = .slice (some ⟨g, f, none⟩) n cap) (ht : ev t = .int .i64 k) (hk : k < n) : (execOp ev o).run Try.prog w = .ok (.value (.pointer (some ⟨g, f + k * 6, none⟩))) w := by
  have h1 : (0 : Int) ≤ (k : Nat) ∧ (k : Int) < (n : Nat) := by omega
  unfold execOp; rw [ho]; simp only [hx, ht]; go_simp
theorem run_b1 {ev : Operand → Value} {o : Oper} {w : World} {x : Operand} {g f : Nat} (ho : o.op = .fieldAddr 36 x 1) (hx : ev x = .pointer (some ⟨g, f, none⟩)) : (execOp ev o).run Try.prog w = .ok (.value (.pointer (some ⟨g, f + 1, none⟩))) w := by
  unfold execOp; rw [ho]; simp only [hx]; go_simp
theorem run_b2 {ev : Operand → Value} {o : Oper} {w : World} {x : Operand} {g f : Nat} (ho : o.op = .fieldAddr 36 x 2) (hx : ev x = .pointer (some ⟨g, f, none⟩)) : (execOp ev o).run Try.prog w = .ok (.value (.pointer (some ⟨g, f + 2, none⟩))) w := by
  unfold execOp; rw [ho]; simp only [hx]; go_simp
theorem run_cO {ev : Operand → Value} {o : Oper} {w : World} {x : Operand} {g f : Nat} {p q : Int} (ho : o.op = .load 32 x) (hx : ev x = .pointer (some ⟨g, f, none⟩)) (h0 : w.cell? ⟨g, f, none⟩ = some (.int .i64 p)) (h1 : w.cell? ⟨g, f + 1, none⟩ = some (.int .i64 q)) : (execOp ev o).run Try.prog w = .ok (.value (cel p q)) w := by
  unfold execOp; rw [ho]; simp only [hx]; go_simp
theorem run_rO {ev : Operand → Value} {o : Oper} {w : World} {x : Operand} {g f : Nat} {p q c d : Int} (ho : o.op = .load 34 x) (hx : ev x = .pointer (some ⟨g, f, none⟩)) (h0 : w.cell? ⟨g, f, none⟩ = some (.int .i64 p)) (h1 : w.cell? ⟨g, f + 1, none⟩ = some (.int .i64 q)) (h2 : w.cell? ⟨g, f + 2, none⟩ = some (.int .i64 c)) (h3 : w.cell? ⟨g, f + 3, none⟩ = some (.int .i64 d)) :
    (execOp ev o).run Try.prog w = .ok (.value (rct p q c d)) w := by
  unfold execOp; rw [ho]; simp only [hx]; go_simp
theorem run_y {ev : Operand → Value} {o : Oper} {w : World} {ad : Addr} {x : Operand} {r : Nat} (ho : o.op = .load 26 x) (hx : ev x = .pointer (some ad)) (hc : w.cell? ad = some (ptr r)) : (execOp ev o).run Try.prog w = .ok (.value (ptr r)) w := by
  unfold execOp; rw [ho]; simp only [hx]; go_simp
theorem run_part {ev : Operand → Value} {o : Oper} {w : World} {x s t : Operand} {g n cap k : Nat} (ho : o.op = .slice 27 x (some s) (some t) none) (hx : ev x = .slice (some ⟨g, 0, none⟩) n cap) (hs : ev s = .int .i64 k) (ht : ev t = .int .i64 ((k : Int) + 1)) (hk : k < n) (hn : n ≤ cap) (hcap : cap ≤ maxLen) :
    (execOp ev o).run Try.prog w = .ok (.value (.slice (some ⟨g, k * 5, none⟩) 1 (cap - k))) w := by
  have h1 : (0 : Int) ≤ (k : Nat) ∧ (k : Int) + 1 ≤ (n : Nat) ∧ (n : Int) ≤ (cap : Nat) ∧ (cap : Int) ≤ 9223372036854775807 := by unfold maxLen at hcap; omega
  have h2 : ¬ cap - k = 0 := by omega
  have h3 : (k : Int) + 1 ≤ (cap : Nat) := by omega
  have h4 : ((k : Int) + 1 - (k : Int)).toNat = 1 := by omega
  unfold execOp; rw [ho]; simp only [hx, hs, ht]; go_simp
  rw [if_pos (by omega), if_neg (by omega)]
theorem run_ix {ev : Operand → Value} {o : Oper} {w : World} {x : Operand} {a : Option Addr} {n c : Nat} (ho : o.op = .build 29 #[(0, x)]) (hx : ev x = .slice a n c) : (execOp ev o).run Try.prog w = .ok (.value (.agg #[.slice a n c])) w := by
  unfold execOp; rw [ho]; simp only [List.map_toArray, List.map_cons, List.map_nil, hx]; go_simp
theorem run_bx {ev : Operand → Value} {o : Oper} {w : World} {x : Operand} {a : Option Addr} {n c : Nat} (ho : o.op = .box 29 x) (hx : ev x = .agg #[.slice a n c]) : (execOp ev o).run Try.prog w = .ok (.value (.pointer (some ⟨w.heap.size, 0, none⟩))) (w.alloc (.cells #[.slice a n c] 29)) := by
  unfold execOp; rw [ho]; simp only [hx]; go_simp
theorem run_not {ev : Operand → Value} {o : Oper} {w : World} {x : Operand} {b : Bool} (ho : o.op = .unOp .not 4 x) (hx : ev x = .bool b) : (execOp ev o).run Try.prog w = .ok (.value (.bool (!b))) w := by
  unfold execOp; rw [ho]; simp only [hx]; go_simp
/-- What the loop over the acts keeps: an index with the units l, the document's with ly. -/
structure Ap (w X : World) (fm r yb m : Nat) (v : Value) (l ly : List Bd) (Ds : List Nat) : Prop where
  st : St X (fm + 1 + 1) fm (fm + 1) m l
  rx : Rx X r v ly
  bx : Boxed X w.heap.size 4 (.bool false)
  yx : Boxed X yb 26 (ptr r)
  below : Below w.heap.size w X
  o1 : w.heap.size < fm
  o2 : fm + 1 + 1 < r
  o3 : r < yb
  own : ∀ k, v.ownBlock = some k → yb < k
  nd : Ds.Nodup
  ds : ∀ D ∈ Ds, yb < D ∧ X.heap[D]? = some (.deferred (some []))
variable {w X X1 W : World} {fm r yb m m1 D : Nat} {v v' : Value} {l l1 ly : List Bd} {Ds : List Nat}
theorem Ap.begin {w w1 w2 X0 : World} {fm r : Nat} (hb1 : Below (w.alloc (.cells #[.bool false] 4)).heap.size (w.alloc (.cells #[.bool false] 4)) w1) (hb2 : Below w1.heap.size w1 w2)
    (h2 : Ix w2 (w1.heap.size + 1 + 1) w1.heap.size (w1.heap.size + 1) 0 0 (fun _ => none) (fun _ _ => none)) (hX0 : (w2.alloc (.cells #[.slice none 0 0] 29)).alloc (.cells #[ptr w2.heap.size] 26) = X0) (hfm : w1.heap.size = fm) (hr : w2.heap.size = r) :
    Ap w X0 fm r (r + 1) 0 (.slice none 0 0) [] [] [] := by
  have D0 := Du.begin hb2 h2
  have z1 := hb1.size
  have z2 := h2.lt
  simp only [World.size_alloc] at z1
  have b1 := box1 (w2.alloc (.cells #[.slice none 0 0] 29)) (.cells #[ptr w2.heap.size] 26)
  have bw : Below w.heap.size w X0 := by rw [← hX0]; exact bt (box1 _ _) (bt hb1 (bt hb2 (bt (box1 _ _) b1)))
  have Rb : Boxed X0 w.heap.size 4 (.bool false) := by
    rw [← hX0]
    exact boxed_upto (Boxed.new w 4 (.bool false)) (bt hb1 (bt hb2 (bt (box1 _ _) b1))) (by simp)
  have D1 := D0.kept b1
  rw [hX0, hfm, hr] at D1
  refine ⟨D1.st, D1.rx, Rb, ?_, bw, by omega, by omega, by omega, fun k e => by simp [Value.ownBlock] at e, List.nodup_nil, by simp⟩
  rw [← hX0]
  have := Boxed.new (w2.alloc (.cells #[.slice none 0 0] 29)) 26 (ptr w2.heap.size)
  simpa [hr] using this
theorem Ap.kept (h : Ap w X fm r yb m v l ly Ds) (hB : Below X.heap.size X X1) : Ap w X1 fm r yb m v l ly Ds :=
  ⟨h.st.kept hB, h.rx.kept hB, boxed_upto h.bx hB h.bx.lt, boxed_upto h.yx hB h.yx.lt, bt h.below hB, h.o1, h.o2, h.o3, h.own, h.nd, fun D hD => ⟨(h.ds D hD).1, (hB.block D (Array.getElem?_eq_some_iff.1 (h.ds D hD).2).1).trans (h.ds D hD).2⟩⟩
theorem Ap.act (h : Ap w X fm r yb m v l ly Ds) (hs : St X1 (fm + 1 + 1) fm (fm + 1) m1 l1) (ht : Tn fm (fm + 1) X X1) : Ap w X1 fm r yb m1 v l1 ly Ds := by
  have o1 := h.o1
  have o2 := h.o2
  have o3 := h.o3
  refine ⟨hs, h.rx.turned ht (by omega) (fun k e => by have := h.own k e; omega), boxed_kept h.bx ht (by omega), boxed_kept h.yx ht (by omega), h.below.trans (ht.below (fun k e => by omega) h.below.size), o1, o2, o3, h.own, h.nd, fun D hD => ⟨(h.ds D hD).1, ht.same (by have := (h.ds D hD).1; omega) (h.ds D hD).2⟩⟩
theorem Ap.clear (h : Ap w X fm r yb m v l ly Ds) : Ap w (X.setCell ⟨r, 0, none⟩ (.slice none 0 0)) fm r yb m (.slice none 0 0) l [] Ds := by
  have o1 := h.o1
  have o2 := h.o2
  have o3 := h.o3
  have ht : Turns (fun k => k = r) X (X.setCell ⟨r, 0, none⟩ (.slice none 0 0)) := Turns.set (S := fun k => k = r) _ rfl _
  exact ⟨h.st.turned ht (by omega) (by omega) (by omega), ⟨Boxed.set _ h.rx.blk, Us.nil _⟩, boxed_kept h.bx ht (by omega), boxed_kept h.yx ht (by omega), h.below.trans (ht.below (fun k e => by omega) h.below.size), o1, o2, o3, fun k e => by simp [Value.ownBlock] at e, h.nd, fun D hD => ⟨(h.ds D hD).1, ht.same (by have := (h.ds D hD).1; omega) (h.ds D hD).2⟩⟩
/-- What the loop over the units keeps. -/
structure Ar (w X W : World) (r yb C : Nat) (v : Value) (pre : List Bd) : Prop where
  rx : Rx W r v pre
  own : ∀ k, v.ownBlock = some k → C ≤ k
  bx : Boxed W w.heap.size 4 (.bool false)
  yx : Boxed W yb 26 (ptr r)
  tn : Turns (fun k => k = r) X W
  c : X.heap.size ≤ C
theorem Ap.range (h : Ap w X fm r yb m (.slice none 0 0) l [] Ds) {C : Nat} (ha : Ar w X W r yb C v' l) (hD : X.heap.size ≤ D) (hK : W.heap[D]? = some (.deferred (some []))) : Ap w W fm r yb m v' l l (D :: Ds) := by
  have o1 := h.o1
  have o2 := h.o2
  have o3 := h.o3
  have hy := h.yx.lt
  have hc := ha.c
  refine ⟨h.st.turned ha.tn (by omega) (by omega) (by omega), ha.rx, ha.bx, ha.yx, h.below.trans (ha.tn.below (fun k e => by omega) h.below.size), o1, o2, o3, fun k e => by have := ha.own k e; omega, List.nodup_cons.2 ⟨fun hm => ?_, h.nd⟩, fun D' hm => ?_⟩
  · have := (Array.getElem?_eq_some_iff.1 (h.ds D hm).2).1
    omega
  · rcases List.mem_cons.1 hm with rfl | hm
    · exact ⟨by omega, hK⟩
    · exact ⟨(h.ds D' hm).1, ha.tn.same (by have := (h.ds D' hm).1; omega) (h.ds D' hm).2⟩
theorem Ar.kept {C : Nat} {pre : List Bd} (h : Ar w X W r yb C v pre) (hB : Below W.heap.size W X1) : Ar w X X1 r yb C v pre :=
  ⟨h.rx.kept hB, h.own, boxed_upto h.bx hB h.bx.lt, boxed_upto h.yx hB h.yx.lt, h.tn.trans ((Turns.of_below hB).mono (fun _ _ e => e)), h.c⟩
theorem take_zero {i : Int} (h : takeC l i ≠ 0) : del l i = l := by
  unfold takeC at h
  cases hg : gOf l i with
  | none => exact del_none hg
  | some c => rw [hg] at h; simp at h
theorem move_zero {i x y : Int} (h : moveC l i x y ≠ 0) : moveL l i x y = l := by
  unfold moveL
  split
  · rfl
  · rw [if_neg h]
theorem put_zero {i x y a b : Int} (h : putC l i x y a b ≠ 0) : putL l i x y a b = l := by
  unfold putL
  rw [if_neg h]
theorem Ar.inner {C : Nat} {pre : List Bd} {Y : World} (h : Ar w X W r yb C v pre) (h1 : r < X.heap.size) (h2 : yb < X.heap.size) (h3 : w.heap.size < X.heap.size) (t : Turns (fun k => X.heap.size ≤ k ∧ k < C) W Y) : Ar w X Y r yb C v pre :=
  ⟨h.rx.turned t (by omega) (fun k e => by have := h.own k e; omega), h.own, boxed_kept h.bx t (by omega), boxed_kept h.yx t (by omega), h.tn.trans (t.mono (fun k _ e => .inr e.1)), h.c⟩
theorem Us.block {w : World} {v : Value} {l : List Bd} (h : Us w v l) {k : Nat} (hk : v.ownBlock = some k) : ∃ cur, w.heap[k]? = some (.cells cur 58) := by
  rcases h.2 with ⟨e, _⟩ | ⟨g, cap, cur, e, hb, hg, r⟩
  · rw [e] at hk; simp [Value.ownBlock] at hk
  · rw [e] at hk
    simp [Value.ownBlock] at hk
    subst hk
    exact ⟨cur, hg⟩
/-- The box of a unit's rectangle. -/
def Bq (W : World) (q : Nat) (c : Rc) : Prop := W.heap[q]? = some (.cells #[.int .i64 c.x, .int .i64 c.y, .int .i64 c.a, .int .i64 c.b] 34)
theorem Bq.cells {W : World} {q : Nat} {c : Rc} (h : Bq W q c) : W.cell? ⟨q, 0, none⟩ = some (.int .i64 c.x) ∧ W.cell? ⟨q, 1, none⟩ = some (.int .i64 c.y) ∧ W.cell? ⟨q, 2, none⟩ = some (.int .i64 c.a) ∧ W.cell? ⟨q, 3, none⟩ = some (.int .i64 c.b) :=
  ⟨cell_of_row _ q 0 _ _ _ h, cell_of_row _ q 1 _ _ _ h, cell_of_row _ q 2 _ _ _ h, cell_of_row _ q 3 _ _ _ h⟩
theorem Bq.kept {W Y : World} {q : Nat} {c : Rc} (h : Bq W q c) (hB : Below W.heap.size W Y) : Bq Y q c := (hB.block q (Array.getElem?_eq_some_iff.1 h).1).trans h
/-- One unit more. -/
theorem Ar.push {C : Nat} {pre : List Bd} {Y : World} (h : Ar w X Y r yb C v pre) (hY : C ≤ Y.heap.size) (t : Bd) (hlen : pre.length ≤ 1000) (h1 : r < X.heap.size) (h2 : yb < X.heap.size) (h3 : w.heap.size < X.heap.size) (h4 : r ≠ yb) (h5 : r ≠ w.heap.size) {q : Nat} {c : Rc} (hq : Bq Y q c) :
    ∃ v2 W2, (Builtin.append_ #[27, 27] 27 #[v, .slice (some ⟨Y.heap.size, 0, none⟩) 1 1]).run Try.prog (Y.alloc (.cells #[.int .i64 t.id, .int .i64 t.r.x, .int .i64 t.r.y, .int .i64 t.r.a, .int .i64 t.r.b] 58)) = .ok v2 W2 ∧ W2.cell? ⟨r, 0, none⟩ = some v ∧ W2.frozen? ⟨r, 0, none⟩ = false ∧ W2.cell? ⟨yb, 0, none⟩ = some (ptr r) ∧ Bq W2 q c ∧
      (∃ a n k, v2 = .slice a n k) ∧ Kr X.heap.size C Y (W2.setCell ⟨r, 0, none⟩ v2) ∧ Ar w X (W2.setCell ⟨r, 0, none⟩ v2) r yb C v2 (pre ++ [t]) := by
  obtain ⟨v2, W2, r1, u2, g2, o2⟩ := h.rx.us.append t hlen
  have b1 := box1 Y (.cells #[.int .i64 t.id, .int .i64 t.r.x, .int .i64 t.r.y, .int .i64 t.r.a, .int .i64 t.r.b] 58)
  have T1 : Turns (fun k => v.ownBlock = some k) Y W2 := (Turns.of_below b1).trans ((Turns.of_grown (S := fun k => v.ownBlock = some k) g2 (fun k e => e)).mono (fun k _ e => .inl e))
  have hc := h.c
  have hvr : v.ownBlock ≠ some r := fun e => by have := h.own r e; omega
  have hvq : v.ownBlock ≠ some q := fun e => by
    obtain ⟨cur, hk⟩ := h.rx.us.block e
    rw [show Y.heap[q]? = _ from hq] at hk
    cases hk
  have hR2 : W2.heap[r]? = some (.cells #[v] 29 (0, 0)) := T1.same hvr h.rx.blk
  have T2 : Turns (fun k => k = r) W2 (W2.setCell ⟨r, 0, none⟩ v2) := Turns.set (S := fun k => k = r) _ rfl _
  have ho2 : ∀ k, v2.ownBlock = some k → C ≤ k := fun k e => by
    rcases o2 with q | ⟨k', q, hk⟩
    · exact h.own k (q ▸ e)
    · rw [q] at e; cases e; omega
  have y2 := boxed_kept h.yx T1 (fun e => by have := h.own yb e; omega)
  refine ⟨v2, W2, r1, cell_of_row _ r 0 _ _ _ hR2, Boxed.frozen hR2, y2.cell, T1.same hvq hq, ?_, ?_, ⟨⟨Boxed.set v2 hR2, row_kept u2 T2 (fun k e q => by have := ho2 k e; omega)⟩, ho2, boxed_kept (boxed_kept h.bx T1 (fun e => by have := h.own _ e; omega)) T2 (by omega), boxed_kept y2 T2 (by omega), ?_, hc⟩⟩
  · obtain ⟨a, cp, e, -, -, -⟩ := u2.form
    exact ⟨_, _, _, e⟩
  · exact (Kr.of_turns T1 (fun k a b _ e => by have := h.own k e; omega)).trans (Kr.of_turns T2 (fun k a b _ e => by omega))
  · exact (h.tn.trans (T1.mono (fun k _ e => .inr (by have := h.own k e; omega)))).trans (T2.mono (fun k _ e => .inl e))
end Go.Proofs.Ytkodeopkgmichaa
