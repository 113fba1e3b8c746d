/-
  What HeapActs keeps: the heap and the law's own list hold the same, and the first of the list is the heap's top.
-/
import Derived.Test.YtdhiomahcilffaaFi
namespace Go.Proofs.Ytdhiomahcilffaa
open Go.RowKit
set_option linter.unusedVariables false
set_option linter.unusedSimpArgs false
theorem wpList_append_run {P : Program} {w : World} {ops : Array Oper} {rest : List Oper} {o : Oper} {a : Act} {Q : Exit → Act → World → Prop}
    (hg : o.guard = none) (s x : Operand) (t : TypeId) (hop : o.op = Op.call { callee := Callee.builtin Builtin.append, args := #[s, x], argTypes := #[t, t] })
    (v xv : Value) (hs : a.eval s = v) (hx : a.eval x = xv) {v' : Value} {w' : World} (hrun : (Builtin.append_ #[t, t] o.type #[v, xv]).run P w = .ok v' w') (hK : wpList P ops Q rest (a.put o.dst v') w') :
    wpList P ops Q (o :: rest) a w := by
  refine wpList_plain hg fun K hK' => ?_
  unfold Oper.wp
  simp [execOp, hop, resolve, invoke, builtin, hs, hx, hrun, Result.andThen]
  exact hK' _ _ hK
theorem step_append_run {P : Program} {ops : Array Oper} {o : Oper} {a : Act} {w : World} {K : Act → World → Prop} {Q : Exit → Act → World → Prop} {E : Prop} (hgd : o.guard = none) (s x : Operand) (t : TypeId)
    (ho : o.op = .call { callee := .builtin .append, args := #[s, x], argTypes := #[t, t] }) (v xv : Value) (hs : a.eval s = v) (hx : a.eval x = xv) {v' : Value} {w' : World}
    (hr : (Builtin.append_ #[t, t] o.type #[v, xv]).run P w = .ok v' w') (h : K (a.put o.dst v') w') :
    if Region.wanted o (yielded ops a.tmps) = true then Oper.wp P o a w K Q else E := by
  have hw : Region.wanted o (yielded ops a.tmps) = true := by simp [Region.wanted, hgd]
  rw [if_pos hw]
  unfold Oper.wp execOp
  simp only [ho, resolve, invoke, builtin, Sem.run_bind, Sem.run_pure, Result.andThen_ok, List.map_toArray, List.map_cons, List.map_nil, hs, hx, hr]
  exact h
def Inc (l : List It) : Prop := l.Pairwise (fun s t => s.p < t.p)
theorem Inc.less {l : List It} (h : Inc l) {i j : Nat} (hij : i < j) (hj : j < l.length) : (nth l i).p < (nth l j).p := by
  have := List.pairwise_iff_getElem.1 h i j (by omega) hj hij
  simpa [nth, List.getElem?_eq_getElem hj, List.getElem?_eq_getElem (show i < l.length by omega)] using this
theorem mem_nth {l : List It} {t : It} (h : t ∈ l) : ∃ i, i < l.length ∧ t = nth l i := by
  obtain ⟨i, hi, rfl⟩ := List.getElem_of_mem h
  exact ⟨i, hi, by simp [nth, hi]⟩
theorem nth_mem {l : List It} {i : Nat} (h : i < l.length) : nth l i ∈ l := by
  have e : nth l i = l[i] := by simp [nth, h]
  rw [e]; exact List.getElem_mem h
theorem Inc.uniq {l : List It} (h : Inc l) {s t : It} (hs : s ∈ l) (ht : t ∈ l) (h1 : lt s t = false) (h2 : lt t s = false) : s = t := by
  obtain ⟨i, hi, rfl⟩ := mem_nth hs
  obtain ⟨j, hj, rfl⟩ := mem_nth ht
  rw [lt_not] at h1 h2
  rcases Nat.lt_trichotomy i j with e | e | e
  · have := h.less e hj; omega
  · rw [e]
  · have := h.less e hi; omega
theorem Fst.least {l : List It} (h : Inc l) {i : Nat} (hF : Fst l l.length (i : Nat)) : i < l.length ∧ ∀ u ∈ l, lt u (nth l i) = false := by
  rcases hF with ⟨_, e⟩ | ⟨i', h1, e, h2, h3⟩
  · omega
  · have : i' = i := by omega
    subst this
    refine ⟨h1, fun u hu => ?_⟩
    obtain ⟨j, hj, rfl⟩ := mem_nth hu
    have q := h2 j hj
    rw [lt_not]
    unfold ah at q
    simp at q
    rcases Nat.lt_trichotomy j i' with e | e | e
    · have r := h3 j e
      unfold ah at r
      simp at r
      omega
    · subst e; omega
    · have := h.less e hj
      omega
theorem Fst.none {l : List It} {r : Int} (hF : Fst l l.length r) (hl : l = []) : r = -1 := by
  subst hl
  rcases hF with ⟨_, e⟩ | ⟨i', h1, _⟩
  · exact e
  · simp at h1
theorem Fst.some {l : List It} {r : Int} (hF : Fst l l.length r) (hl : 0 < l.length) : ∃ i : Nat, r = (i : Nat) ∧ i < l.length := by
  rcases hF with ⟨e, _⟩ | ⟨i', h1, e, _⟩
  · omega
  · exact ⟨i', e, h1⟩
/-- A list without its place i. -/
def del (l : List It) (i : Nat) : List It := l.take i ++ l.drop (i + 1)
theorem del_len {l : List It} {i : Nat} (h : i < l.length) : (del l i).length = l.length - 1 := by simp [del]; omega
theorem del_perm {l : List It} {i : Nat} (h : i < l.length) : l.Perm (nth l i :: del l i) := by
  have e : l = l.take i ++ nth l i :: l.drop (i + 1) := by
    have e1 : l.drop i = l[i] :: l.drop (i + 1) := List.drop_eq_getElem_cons h
    have e2 : nth l i = l[i] := by simp [nth, h]
    rw [e2, ← e1, List.take_append_drop]
  conv => lhs; rw [e]
  exact List.perm_middle
theorem del_sub (l : List It) (i : Nat) : (del l i).Sublist l := by
  unfold del
  conv => rhs; rw [← List.take_append_drop i l]
  refine List.Sublist.append (List.Sublist.refl _) ?_
  rw [show i + 1 = 1 + i by omega, Nat.add_comm 1 i, ← List.drop_drop]
  exact List.drop_sublist _ _
/-- The heap in block b and the law's list v hold the same, both in memory from block B on. -/
structure Ac (B b : Nat) (u : Value) (n : Int) (v : Value) (l : List It) (w : World) : Prop where
  h : Hs w b u n l
  a : Al w v l
  i : Inc l
  p : ∀ t ∈ l, t.p < n
  n0 : 0 ≤ n
  nb : B ≤ b
  nu : ∀ k, u.ownBlock = some k → B ≤ k
  nv : ∀ k, v.ownBlock = some k → B ≤ k
section
variable {B b : Nat} {u v : Value} {n : Int} {l : List It} {w w' : World}
theorem Ac.apart (h : Ac B b u n v l w) : (∀ k, v.ownBlock = some k → ¬ (k = b ∨ u.ownBlock = some k)) := fun k e => by
  obtain ⟨l', a1, a2, _⟩ := h.h
  rintro (q | q)
  · subst q; exact h.a.ne_hp a1 e
  · exact h.a.ne a2 (by decide) e q
theorem Ac.upto (h : Ac B b u n v l w) (hb : Below w.heap.size w w') : Ac B b u n v l w' := { h with h := h.h.upto hb, a := h.a.upto hb }
theorem Ac.pushed (h : Ac B b u n v l w) (hB : B ≤ w.heap.size) {k m : Int} (hp : Pushed w b u n l ⟨k, m, n⟩ w') : ∃ u', Hs w' b u' (n + 1) (l ++ [⟨k, m, n⟩]) ∧ Al w' v l ∧ (∀ k, u'.ownBlock = some k → B ≤ k) ∧ Below B w w' ∧ ∀ k, v.ownBlock = some k → ∀ j, u'.ownBlock = some j → k ≠ j := by
  obtain ⟨u', h1, h2, h3⟩ := hp
  obtain ⟨lx, q1, q2, q3, q4⟩ := h1
  have ha := h.a.kept h2 h.apart
  refine ⟨u', ⟨lx, q1, q2, q3, q4.trans (List.perm_append_comm (l₁ := [(⟨k, m, n⟩ : It)]))⟩, ha, fun j e => ?_, h2.below (fun j e => ?_) hB, fun j e i e' c => ?_⟩
  · rcases h3 j e with q | q
    · exact h.nu j q
    · omega
  · rcases e with q | q
    · rw [q]; exact h.nb
    · exact h.nu j q
  · subst c; exact ha.ne q2 (by decide) e e'
theorem Ac.grow (h : Ac B b u n v l w) (hB : B ≤ w.heap.size) {k m : Int} {w2 w4 : World} {o : Obj} {v4 : Value} (hp : Pushed w b u n l ⟨k, m, n⟩ w2) (al4 : Al w4 v4 (l ++ [⟨k, m, n⟩])) (gr : (w2.alloc o).grownBy w4 v.ownBlock) (ow : v4.ownBlock = v.ownBlock ∨ ∃ j, v4.ownBlock = some j ∧ (w2.alloc o).heap.size ≤ j) :
    (∃ u', Ac B b u' (n + 1) v4 (l ++ [⟨k, m, n⟩]) w4) ∧ Below B w w4 := by
  obtain ⟨u2, h2, a2, o2, b2, ap⟩ := h.pushed hB hp
  have hs := b2.size
  have T : Turns (fun k => v.ownBlock = some k) w2 w4 := (Turns.of_below (box1 w2 o)).trans (Turns.of_grown gr (fun k e => .inl e))
  have hz : (w2.alloc o).heap.size = w2.heap.size + 1 := by simp
  refine ⟨⟨u2, { h := h2.kept T (fun e => ?_) (fun j e e' => ap j e' j e rfl), a := al4, i := ?_, p := fun t ht => ?_, n0 := by have := h.n0; omega, nb := h.nb, nu := o2, nv := fun j e => ?_ }⟩, b2.trans (T.below (fun j e => h.nv j e) (by omega))⟩
  · obtain ⟨lx, q1, _⟩ := h2
    exact a2.ne_hp q1 e
  · unfold Inc
    rw [List.pairwise_append]
    refine ⟨h.i, List.pairwise_singleton _ _, fun s hs t ht => ?_⟩
    simp at ht
    subst ht
    exact h.p s hs
  · rcases List.mem_append.1 ht with q | q
    · have := h.p t q; omega
    · simp at q; subst q; simp only; omega
  · rcases ow with q | ⟨j', q, hj⟩
    · exact h.nv j (q ▸ e)
    · rw [q] at e; cases e; omega
theorem Ac.shrink (h : Ac B b u n v l w) (hB : B ≤ w.heap.size) {i g : Nat} {w2 w3 : World} {u2 v3 : Value} (hv : v.ownBlock = some g) (h2 : Hs w2 b u2 n (del l i)) (a2 : Al w2 v l) (o2 : ∀ k, u2.ownBlock = some k → B ≤ k) (b2 : Below B w w2) (al3 : Al w3 v3 (del l i)) (gr : w2.grownBy w3 (some g)) (ow : v3.ownBlock = some g ∨ ∃ k, v3.ownBlock = some k ∧ w2.heap.size ≤ k) :
    Ac B b u2 n v3 (del l i) w3 ∧ Below B w w3 := by
  have hs := b2.size
  have T : Turns (fun k => k = g) w2 w3 := Turns.of_grown gr (fun k e => by cases e; rfl)
  obtain ⟨lx, q1, q2, q3, q4⟩ := h2
  refine ⟨{ h := ⟨lx, q1.kept T (fun e => a2.ne_hp q1 (e ▸ hv)), q2.kept T (fun k e c => a2.ne q2 (by decide) (c ▸ hv) e), q3, q4⟩, a := al3, i := h.i.sublist (del_sub l i), p := fun t ht => h.p t ((del_sub l i).subset ht), n0 := h.n0, nb := h.nb, nu := o2, nv := fun k e => ?_ }, b2.trans (T.below (fun k e => by rw [e]; exact h.nv g hv) (by omega))⟩
  rcases ow with q | ⟨j, q, hj⟩
  · rw [q] at e; cases e; exact h.nv g hv
  · rw [q] at e; cases e; omega
theorem Ac.top (h : Ac B b u n v l w) (hl : 0 < l.length) {i : Nat} (hF : Fst l l.length (i : Nat)) :
    Calls Try.prog 11 #[ptr b] w fun e w' => e = .returned (.tuple #[itv (nth l i).k (nth l i).n, .bool true]) ∧ Below w.heap.size w w' := by
  obtain ⟨lx, q1, q2, q3, q4⟩ := h.h
  have hl' : 0 < lx.length := by rw [q4.length_eq]; exact hl
  have := top_yes b u n false lx w q1 q2 hl'
  obtain ⟨hi, hm⟩ := Fst.least h.i hF
  have e : nth lx 0 = nth l i := h.i.uniq (q4.mem_iff.1 (nth_mem hl')) (nth_mem hi) (hm _ (q4.mem_iff.1 (nth_mem hl'))) (q3.least (q4.mem_iff.2 (nth_mem hi)))
  rw [e] at this
  exact this
theorem Ac.top0 (h : Ac B b u n v [] w) : Calls Try.prog 11 #[ptr b] w fun e w' => e = .returned (.tuple #[itv 0 0, .bool false]) ∧ Below w.heap.size w w' := by
  obtain ⟨a, cap, rfl, hm, hp⟩ := h.h.len
  exact top_no b a cap n false w hp
theorem Ac.pop0 (h : Ac B b u n v [] w) : Calls Try.prog 13 #[ptr b] w fun e w' => e = .returned (.tuple #[itv 0 0, .bool false]) ∧ Below w.heap.size w w' := by
  obtain ⟨a, cap, rfl, hm, hp⟩ := h.h.len
  exact pop_no b a cap n false w hp
theorem Ac.pop (h : Ac B b u n v l w) (hB : B ≤ w.heap.size) (hl : 0 < l.length) (hlen : l.length ≤ 1000) {i : Nat} (hF : Fst l l.length (i : Nat)) :
    Calls Try.prog 13 #[ptr b] w fun e w' => e = .returned (.tuple #[itv (nth l i).k (nth l i).n, .bool true]) ∧ ∃ u', Hs w' b u' n (del l i) ∧ Al w' v l ∧ (∀ k, u'.ownBlock = some k → B ≤ k) ∧ Below B w w' ∧ Turns (fun k => k = b ∨ u.ownBlock = some k) w w' := by
  refine (pop_yes b u n l w h.h hl (by omega)).mono ?_
  rintro e w' ⟨t, rfl, u', S', p1, p2, ⟨lx, q1, q2, q3, q4⟩, p4, p5⟩
  obtain ⟨hi, hm⟩ := Fst.least h.i hF
  have ht : t ∈ l := p1.mem_iff.2 (by simp)
  have e : t = nth l i := h.i.uniq ht (nth_mem hi) (hm _ ht) (p2 _ (nth_mem hi))
  subst e
  refine ⟨rfl, u', ⟨lx, q1, q2, q3, q4.trans (List.Perm.cons_inv (p1.symm.trans (del_perm hi)))⟩, h.a.kept p4 h.apart, fun k e => h.nu k (p5 k e), p4.below (fun j e => ?_) hB, p4⟩
  rcases e with q | q
  · rw [q]; exact h.nb
  · exact h.nu j q
end
end Go.Proofs.Ytdhiomahcilffaa
