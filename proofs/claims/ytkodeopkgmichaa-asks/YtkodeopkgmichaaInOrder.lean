/-
  All units in a row, before they are sorted.
-/
import Derived.Test.YtkodeopkgmichaaUnits
namespace Go.Proofs.Ytkodeopkgmichaa
open Go.RowKit Go.Shelf
set_option linter.unusedVariables false
set_option linter.unusedSimpArgs false
attribute [local go_sem] Oper.semAt_some
/-- The slice v reads as the units l. -/
def Bds (w : World) (v : Value) (l : List Bd) : Prop := w.ownsRow 0 83 5 v l.length (l.flatMap Bd.cs)
def z83 : Value := .agg #[.int .i64 0, .int .i64 0, .int .i64 0, .int .i64 0, .int .i64 0]
theorem info83 : (Try.prog.info? 83).map (fun i => (i.zero, i.size, i.bytes)) = some (some z83, 5, 40) := by kernel_rfl
theorem info_parts {P : Program} {t : TypeId} {z : Value} {s b : Nat} (h : (P.info? t).map (fun i => (i.zero, i.size, i.bytes)) = some (some z, s, b)) : ∃ i, P.info? t = some i ∧ i.zero = some z ∧ i.size = s ∧ i.bytes = b := by
  cases hi : P.info? t with
  | none => rw [hi] at h; cases h
  | some i => rw [hi] at h; simp at h; exact ⟨i, rfl, h.1, h.2.1, h.2.2⟩
theorem one_bd {t : Bd} : ∀ u ∈ t.cs, u.oneCell' = true := by
  intro u hu
  simp only [Bd.cs, List.mem_cons, List.not_mem_nil, or_false] at hu
  rcases hu with rfl | rfl | rfl | rfl | rfl <;> rfl
theorem wpList_append_run {P : Program} {w : World} {ops : Array Oper} {rest : List Oper} {o : Oper} {a : Act} {Q : Exit → Act → World → Prop}
    (hg : o.guard = none) (s x : Operand) (t : TypeId) (hop : o.op = Op.call { callee := Callee.builtin Builtin.append, args := #[s, x], argTypes := #[t, t] })
    (v xv : Value) (hs : a.eval s = v) (hx : a.eval x = xv) {v' : Value} {w' : World} (hrun : (Builtin.append_ #[t, t] o.type #[v, xv]).run P w = .ok v' w') (hK : wpList P ops Q rest (a.put o.dst v') w') :
    wpList P ops Q (o :: rest) a w := by
  refine wpList_plain hg fun K hK' => ?_
  unfold Oper.wp
  simp [execOp, hop, resolve, invoke, builtin, hs, hx, hrun, Result.andThen]
  exact hK' _ _ hK
theorem Bds.append {w : World} {v : Value} {l : List Bd} (h : Bds w v l) (t : Bd) (hlen : l.length ≤ 1000) :
    ∃ v' w', (Builtin.append_ #[80, 80] 80 #[v, .slice (some ⟨w.heap.size, 0, none⟩) 1 1]).run Try.prog (w.alloc (.cells #[.int .i64 t.id, .int .i64 t.r.x, .int .i64 t.r.y, .int .i64 t.r.a, .int .i64 t.r.b] 83)) = .ok v' w' ∧ Bds w' v' (l ++ [t]) ∧ (w.alloc (.cells #[.int .i64 t.id, .int .i64 t.r.x, .int .i64 t.r.y, .int .i64 t.r.a, .int .i64 t.r.b] 83)).grownBy w' v.ownBlock ∧ (v'.ownBlock = v.ownBlock ∨ ∃ k, v'.ownBlock = some k ∧ w.heap.size ≤ k) := by
  obtain ⟨fi, hf, hz, h5, h40⟩ := info_parts info83
  obtain ⟨v', w', q1, q2, q3, q4, q5⟩ := run_append_own_at (P := Try.prog) (w.alloc (.cells #[.int .i64 t.id, .int .i64 t.r.x, .int .i64 t.r.y, .int .i64 t.r.a, .int .i64 t.r.b] 83)) 0 80 80 83 fi z83 5 40 Try.underlying80 hf hz h5 h40 rfl (by decide) v l.length _ (World.ownsRow.alloc h _) ⟨w.heap.size, 0, none⟩ 1 1 t.cs rfl (fun j u hu => by
      rw [Addr.add_lit, Nat.zero_add, cell_of_row _ w.heap.size j _ _ _ (heap_alloc_new w _)]
      simpa [Bd.cs] using hu) one_bd (by unfold maxLen; omega) (by omega) (Nat.zero_le _)
  refine ⟨v', w', q1, ?_, q3, q5.imp id (fun e => ⟨_, e, by simp⟩)⟩
  unfold Bds
  rw [List.flatMap_append, List.length_append]
  simpa using q2
theorem row_kept {w w' : World} {e : TypeId} {k n : Nat} {v : Value} {xs : List Value} {S : Nat → Prop} (h : w.ownsRow 0 e k v n xs) (ht : Turns S w w') (hs : ∀ k, v.ownBlock = some k → ¬ S k) : w'.ownsRow 0 e k v n xs := by
  refine ⟨h.1, ?_⟩
  rcases h.2 with h1 | ⟨g, cap, cur, e, hb, hg, r⟩
  · exact .inl h1
  · exact .inr ⟨g, cap, cur, e, hb, ht.same (hs g (by rw [e]; rfl)) hg, r⟩
/-- What has come of a range over the units. -/
def Come (l L : List Bd) (left : Lit → Bool) : Prop := L.Perm (l.filter (fun t => !left (.int .i64 t.id)))
theorem filter_more : ∀ {l : List Bd} (hs : Sorted l) (P : Bd → Bool) (t : Bd), t ∈ l → P t = false → (l.filter (fun s => P s || decide (s.id = t.id))).Perm (l.filter P ++ [t])
  | [], _, _, _, h, _ => by simp at h
  | s :: r, hs, P, t, h, hp => by
    have hs' := List.pairwise_cons.1 hs
    rcases List.mem_cons.1 h with rfl | h
    · have hr : r.filter (fun s => P s || decide (s.id = t.id)) = r.filter P := by
        refine List.filter_congr (fun u hu => ?_)
        have := hs'.1 u hu
        rw [show decide (u.id = t.id) = false by simp; omega, Bool.or_false]
      rw [List.filter_cons, List.filter_cons, hp]
      simp only [Bool.false_or, decide_true, if_true, Bool.false_eq_true, if_false, hr]
      exact List.perm_append_comm (l₁ := [t])
    · have hst := hs'.1 t h
      have e : decide (s.id = t.id) = false := by simp; omega
      have ih := filter_more hs'.2 P t h hp
      rw [List.filter_cons, List.filter_cons, e, Bool.or_false]
      cases P s
      · simpa using ih
      · simpa using ih.cons s
theorem Come.step {l L : List Bd} {left : Lit → Bool} (hs : Sorted l) (h : Come l L left) {x : Int} {c : Rc} (hg : gOf l x = some c) (hl : left (.int .i64 x) = true) : Come l (L ++ [⟨x, c⟩]) (fun z => left z && !z.sameKey (.int .i64 x)) := by
  have hm := gOf_some hg
  have := filter_more hs (fun t => !left (.int .i64 t.id)) ⟨x, c⟩ hm (by simp [hl])
  unfold Come at *
  have e : l.filter (fun t => !(left (.int .i64 t.id) && !(Lit.int .i64 t.id).sameKey (.int .i64 x))) = l.filter (fun s => !left (.int .i64 s.id) || decide (s.id = x)) := by
    refine List.filter_congr (fun u hu => ?_)
    simp [Lit.sameKey]
  rw [e]
  exact (h.append_right [⟨x, c⟩]).trans this.symm
theorem Come.start {l : List Bd} {D : DataW Unit} (h : ∀ t ∈ l, Maps.has D (.int .i64 t.id) = true) : Come l [] (Maps.has D) := by
  unfold Come
  rw [List.filter_eq_nil_iff.2 (fun t ht => by simp [h t ht])]
theorem Come.done {l L : List Bd} {left : Lit → Bool} (h : Come l L left) (h0 : ∀ kl, left kl = false) : L.Perm l := by
  unfold Come at h
  rwa [List.filter_eq_self.2 (fun t ht => by simp [h0])] at h
set_option maxRecDepth 100000 in
set_option maxHeartbeats 4000000 in
theorem collect_is (p fm bm m : Nat) (l : List Bd) (f : Int → Int → Option Int) (w : World) (h : Ix w p fm bm l.length m (gOf l) f) (hs : Sorted l) (hlen : l.length ≤ 256) (hi : ∀ t ∈ l, W64 t.id)
    (Fin : Ending → World → Prop) (hfin : ∀ v L w', Bds w' v L → L.Perm l → Below w.heap.size w w' → (∃ k, v.ownBlock = some k ∧ w.heap.size ≤ k) → Calls Try.prog 52 #[v, .func (.func 53) #[] #[]] w' fun e w'' => e = .returned (.tuple #[]) ∧ Fin (.returned v) w'') :
    Calls Try.prog 39 #[ptr p] w Fin := by
  obtain ⟨fi, hf, hz, h5, h40⟩ := info_parts info83
  have c0 := h.c0
  have hlen0 := h.feet.len
  obtain ⟨D, hown, hsz, hD⟩ := id h.feet
  have hbl := h.feet.lt
  have hpl := h.lt
  have hfp := h.apart.1
  have HFin := hide hfin
  clear hfin
  go_enter Try.func39, Try.ntmps39
  go_wp2_with (first
    | (at_make; refine wpList_make_own _ rfl _ _ 80 rfl 0 83 fi z83 5 Try.underlying80 hf hz h5 .i64 .i64 _ l.length rfl rfl rfl (by rw [h40]; omega) (by unfold maxLen; omega) (Nat.zero_le _) ?_; intro w1 hr1 hg1; have hown1 := hown.kept hg1 (by simp); have hb1 : Below w.heap.size w w1 := ⟨hg1.os, hg1.tape, hg1.output, hg1.size, fun k hk => hg1.block k hk (by simp)⟩; have c1 := (hb1.cell (p := ⟨p, 0, none⟩) hpl).trans c0)
    | (at_range; refine wpList_range_own _ rfl _ 59 rfl 3 34 law3 Try.underlying59 _ fm l.length _ rfl hown1 ?_; intro w2 hrg0 hg2 hs2)
    | go_in)
  go_frame
  have hhas : ∀ t ∈ l, Maps.has D (.int .i64 t.id) = true := fun t ht => by rw [(hD t.id (hi t ht)).1, gOf_mem hs ht]; rfl
  have hb2 : Below w.heap.size w w2 := ⟨hg2.os.trans hb1.os, hg2.tape.trans hb1.tape, hg2.output.trans hb1.output, Nat.le_trans hb1.size hg2.size, fun k hk => (hg2.block k (Nat.lt_of_lt_of_le hk hb1.size) (by simp)).trans (hb1.block k hk)⟩
  have hr2 : Bds w2 (.slice (some ⟨w.heap.size, 0, none⟩) 0 l.length) [] := row_kept hr1 (Turns.of_grown (S := NoB) hg2 (fun k e => by cases e)) (fun _ _ => id)
  have HB2 := hide hb2
  have HR2 := hide hr2
  have HRG := hide hrg0
  have hz1 : w.heap.size ≤ w1.heap.size := hb1.size
  clear hb2 hr2 hr1 hg1 hg2 hown1 hrg0 c1
  go_loopw [3] (fun v wr => ∃ (left : Lit → Bool) (cnt : Nat) (L : List Bd), wr.ranges Try.prog 3 rcElem fm w1.heap.size l.length D left cnt ∧ Bds wr v L ∧ (Come l L left ∧ ∀ kl, left kl = true → Maps.has D kl = true) ∧ Below w.heap.size w wr ∧ (∃ k, v.ownBlock = some k ∧ w.heap.size ≤ k)) (fun _ wr => wr.rangeLeft fm w1.heap.size)
  case atStart => exact ⟨_, _, [], HRG.out, HR2.out, ⟨Come.start hhas, fun kl e => e⟩, HB2.out, w.heap.size, rfl, Nat.le_refl _⟩
  case round =>
    obtain ⟨left, cnt, L, hrg, hbd, ⟨hcm, hsub⟩, hB, ho⟩ := hrel
    rename World => wo
    go_wp2_with (first
      | (at_next; refine wpList_next_ranges _ rfl _ rfl 3 law3 rcElem (Value.int .i64) Rc.v (fun key kl hkey => by obtain ⟨x, rfl, _⟩ := Maps.keyOf_int_inv Try.underlying3 hkey; exact ⟨x, rfl⟩) (fun v y hv => by obtain ⟨r, rfl, _⟩ := rcElem_inv hv; exact ⟨r, rfl⟩) fm w1.heap.size l.length D left cnt rfl hrg ?_ ?_)
      | go_in)
    · intro hc0 hl0
      have hfn := HFin.out u3 L wo hbd (hcm.done hl0) hB ho
      have HFn := hide hfn
      clear hfn hrg hbd hcm hsub hB ho
      go_wp2_with fail
      refine HFn.out.mono ?_
      rintro e w9 ⟨rfl, hq⟩
      have HQ := hide hq
      clear hq
      go_wp2_with fail
      exact HQ.out
    · obtain ⟨k0, ek0, hk0⟩ := ho
      have ho : ∀ k, u3.ownBlock = some k → w.heap.size ≤ k := fun k e => by rw [ek0] at e; cases e; exact hk0
      intro x c kl da db w3 cnt3 hkey hlk hv hat hrg3 hlt hg3 hs3 hen
      obtain ⟨x', ex, rfl, hwx⟩ := Maps.keyOf_int_inv Try.underlying3 hkey
      cases ex
      have hgx : gOf l x = some c := by
        have h1 := (hD x hwx).1
        rw [hsub _ hlk] at h1
        have h2 := (hD x hwx).2
        rw [hat] at h2
        have h3 : da = c.d := by rw [rcElem_mk] at hv; simp at hv; exact hv.1.symm
        rw [h3] at h2
        cases hq : gOf l x with
        | none => rw [hq] at h1; cases h1
        | some r => rw [hq] at h2; simp at h2; rw [Rc.d_inj h2]
      have T3 : Turns (fun k => k = w1.heap.size) wo w3 := Turns.of_grown hg3 (fun k e => by cases e; rfl)
      have hvr : ∀ k, u3.ownBlock = some k → k ≠ w1.heap.size := fun k e c => by
        subst c
        obtain ⟨_, _, _, _, _, _, _, _, _, hri, _⟩ := id hrg
        rcases hbd.2 with ⟨rfl, _⟩ | ⟨g, cap, cur, rfl, _, hg, _⟩
        · simp [Value.ownBlock] at e
        · simp [Value.ownBlock] at e
          subst e
          rw [hri] at hg
          cases hg
      have hbd3 : Bds w3 u3 L := row_kept hbd T3 hvr
      have hB3 : Below w.heap.size w w3 := hB.trans (T3.below (fun k e => by omega) hB.size)
      have b4 := box1 w3 (.cells #[.int .i64 c.x, .int .i64 c.y, .int .i64 c.a, .int .i64 c.b] 34)
      have F4 : Four (w3.alloc (.cells #[.int .i64 c.x, .int .i64 c.y, .int .i64 c.a, .int .i64 c.b] 34)) w3.heap.size c.x c.y c.a c.b := cells4 (Below.refl _ _)
      have hbd4 : Bds (w3.alloc (.cells #[.int .i64 c.x, .int .i64 c.y, .int .i64 c.a, .int .i64 c.b] 34)) u3 L := row_kept hbd3 (Turns.of_below (S := NoB) b4) (fun _ _ => id)
      have hrg4 := hrg3.alloc (.cells #[.int .i64 c.x, .int .i64 c.y, .int .i64 c.a, .int .i64 c.b] 34)
      obtain ⟨W4, hW4⟩ : ∃ W4, w3.alloc (.cells #[.int .i64 c.x, .int .i64 c.y, .int .i64 c.a, .int .i64 c.b] 34) = W4 := ⟨_, rfl⟩
      rw [hW4] at b4 F4 hbd4 hrg4
      have hLl : L.length ≤ 1000 := by
        have h1 : L.length = _ := hcm.length_eq
        have h2 := List.length_filter_le (fun t => !left (.int .i64 t.id)) l
        omega
      obtain ⟨v5, w5, hrun, bd5, gr5, ow5⟩ := hbd4.append ⟨x, c⟩ hLl
      have hcm5 := hcm.step hs hgx hlk
      have hsub5 : ∀ kl, (left kl && !kl.sameKey (.int .i64 x)) = true → Maps.has D kl = true := fun kl e => by
        rw [Bool.and_eq_true] at e
        exact hsub kl e.1
      have T5 : Turns (fun k => u3.ownBlock = some k) W4 w5 := (Turns.of_below (box1 _ _)).trans (Turns.of_grown gr5 (fun k e => .inl e))
      have hB4 := bt hB3 b4
      have hz4 : w.heap.size ≤ W4.heap.size := hB4.size
      have hB5 : Below w.heap.size w w5 := hB4.trans (T5.below (fun k e => ho k e) hz4)
      have hu4 : ∀ k, u3.ownBlock = some k → k ≠ fm := fun k e c => by have := ho k e; omega
      have hrg5 := (hrg4.alloc (.cells #[.int .i64 x, .int .i64 c.x, .int .i64 c.y, .int .i64 c.a, .int .i64 c.b] 83)).kept gr5 (fun e => hu4 fm e.symm rfl) (fun e => hvr _ e.symm rfl)
      have ho5 : ∃ k, v5.ownBlock = some k ∧ w.heap.size ≤ k := by
        rcases ow5 with q | ⟨j, q, hj⟩
        · exact ⟨k0, q.trans ek0, hk0⟩
        · exact ⟨j, q, by omega⟩
      obtain ⟨⟨f0, f1, f2, f3⟩, -, -⟩ := id F4
      have HW4 := hide hW4
      have HR := hide hrun
      have HEnd : Hid (∃ (left : Lit → Bool) (cnt : Nat) (L : List Bd), w5.ranges Try.prog 3 rcElem fm w1.heap.size l.length D left cnt ∧ Bds w5 v5 L ∧ (Come l L left ∧ ∀ kl, left kl = true → Maps.has D kl = true) ∧ Below w.heap.size w w5 ∧ (∃ k, v5.ownBlock = some k ∧ w.heap.size ≤ k)) := hide ⟨_, _, _, hrg5, bd5, ⟨hcm5, hsub5⟩, hB5, ho5⟩
      have HM : Hid (w5.rangeLeft fm w1.heap.size < wo.rangeLeft fm w1.heap.size) := hide (by rw [hrg5.left_eq, hrg.left_eq]; exact hlt)
      clear hrg hrg3 hrg4 hrg5 hbd hbd3 hbd4 bd5 gr5 ow5 hcm hcm5 hsub hsub5 hB hB3 hB4 hB5 hW4 T3 T5 F4 hkey hlk hv hat hg3 hs3 hrun hvr hu4 ho ho5 b4 ek0
      go_wp2_with (first | rw [HW4.out] | (at_builtin; refine wpList_append_run rfl _ _ 80 rfl _ _ rfl rfl HR.out ?_))
      go_roundw
      case rel => exact HEnd.out
      case measure => exact HM.out
end Go.Proofs.Ytkodeopkgmichaa
