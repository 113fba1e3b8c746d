/-
  slices.Delete of one building. Raze of a World. Raze of a building that stands.
-/
import Derived.Test.YtekpamilcpeanaaDoorInsert
import Derived.Test.YtekpamilcpeanaaDoorAtW
namespace Go.Proofs.YtekpamilcpeanaaDoor
open Go.RowKit
set_option linter.unusedVariables false
def z5 : List Value := [.int .i64 0, .int .i64 0, .int .i64 0, .int .i64 0, .int .i64 0]
theorem zero5 (w : World) : (zeroValue 78).run Tryd.prog w = .ok z55 w := by kernel_rfl
theorem zc5 : (Builtin.zeroCells (Value.agg #[.int .i64 0, .int .i64 0, .int .i64 0, .int .i64 0, .int .i64 0]).cells 1).toList = z5 := by kernel_rfl
theorem one_z5 : ∀ u ∈ z5, u.oneCell' = true := by
  intro u hu
  simp only [z5, List.mem_cons, List.not_mem_nil, or_false] at hu
  rcases hu with rfl | rfl | rfl | rfl | rfl <;> rfl
theorem run_clear5 (w : World) (ty : TypeId) (g o c : Nat) (cur : List Value) (hg : w.heap[g]? = some (.cells cur.toArray 78 (0, 0))) (hfit : o + 5 ≤ cur.length) :
    (Builtin.clear_ #[33] ty #[.slice (some ⟨g, o, none⟩) 1 c]).run Tryd.prog w = .ok (.tuple #[]) (w.setRow g (splice cur o z5).toArray) := by
  have hst := run_storeCells_at Tryd.prog g o 78 z5 0 cur.toArray w hg (by simpa [z5] using hfit) one_z5
  simp only [Nat.add_zero] at hst
  simp [Builtin.clear_, run_underlying Tryd.underlying33, zc5, hst, splice]
theorem wpList_clear_eq {P : Program} {w : World} {ops : Array Oper} {rest : List Oper} {o : Oper} {a : Act} {Q : Exit → Act → World → Prop} (hgd : o.guard = none) (d : Operand) (t : TypeId)
    (ho : o.op = .call { callee := .builtin .clear, args := #[d], argTypes := #[t] }) {v v' : Value} {w' : World} (hd : a.eval d = v)
    (hr : (Builtin.clear_ #[t] o.type #[v]).run P w = .ok v' w') (h : wpList P ops Q rest (a.put o.dst v') w') : wpList P ops Q (o :: rest) a w := by
  refine wpList_plain hgd fun _ hK => ?_
  unfold Oper.wp execOp
  simp only [ho, resolve, invoke, builtin, Sem.run_bind, Sem.run_pure, Result.andThen_ok, List.map_toArray, List.map_cons, List.map_nil, hd, hr]
  exact hK _ _ h
theorem step_append_eq {P : Program} {ops : Array Oper} {o : Oper} {a : Act} {w : World} {K : Act → World → Prop} {Q : Exit → Act → World → Prop} {E : Prop} (hgd : o.guard = none) (d s : Operand) (t t' : TypeId)
    (ho : o.op = .call { callee := .builtin .append, args := #[d, s], argTypes := #[t, t'] }) {v u v' : Value} {w' : World} (hd : a.eval d = v) (hs : a.eval s = u)
    (hr : (Builtin.append_ #[t, t'] o.type #[v, u]).run P w = .ok v' w') (hK : K (a.put o.dst v') w') :
    if Region.wanted o (yielded ops a.tmps) = true then Oper.wp P o a w K Q else E := by
  have hw : Region.wanted o (yielded ops a.tmps) = true := by simp [Region.wanted, hgd]
  rw [if_pos hw]
  unfold Oper.wp execOp
  simp only [ho, resolve, invoke, builtin, Sem.run_bind, Sem.run_pure, Result.andThen_ok, List.map_toArray, List.map_cons, List.map_nil, hd, hs, hr]
  exact hK
theorem run_append5 (w : World) (ty : TypeId) (g i c : Nat) (a : Addr) (m c2 : Nat) (X C : List Value) (hg : w.heap[g]? = some (.cells X.toArray 78 (0, 0))) (hC : C.length = m * 5)
    (hsrc : ∀ j u, C[j]? = some u → w.cell? (a.add j) = some u) (h1 : ∀ u ∈ C, u.oneCell' = true) (hroom : i + m ≤ c) (hfit : i * 5 + C.length ≤ X.length) :
    (Builtin.append_ #[33, 33] ty #[.slice (some ⟨g, 0, none⟩) i c, .slice (some a) m c2]).run Tryd.prog w = .ok (.slice (some ⟨g, 0, none⟩) (i + m) c) (w.setRow g (splice X (i * 5) C).toArray) := by
  obtain ⟨f, hf, hz, h5, h40⟩ := info_parts info55
  have := run_append_room (P := Tryd.prog) w 33 ty 78 f Tryd.underlying33 hf g i c X.toArray hg a m c2 C (by rw [h5]; exact hC) hsrc h1 hroom (by rw [h5]; simpa using hfit)
  rw [this, h5]
  simp [splice]
/-- What slices.Delete tells. -/
def Deleted (w : World) (g cap : Nat) (l' : List Bd) (e : Ending) (w' : World) : Prop :=
  e = .returned (.slice (some ⟨g, 0, none⟩) l'.length cap) ∧ Bds w' (.slice (some ⟨g, 0, none⟩) l'.length cap) l' ∧ w.grownBy w' (some g)
theorem splice_take {α : Type} (L Z : List α) (o : Nat) (h : o ≤ L.length) : (splice L o Z).take o = L.take o := by
  unfold splice
  rw [List.take_append_of_le_length (by simp; omega), List.take_take, Nat.min_self]
theorem splice_take2 {α : Type} (L C : List α) (o : Nat) (h : o + C.length ≤ L.length) : (splice L o C).take (o + C.length) = L.take o ++ C := by
  unfold splice
  rw [← List.append_assoc, List.take_append_of_le_length (by simp; omega), List.take_of_length_le (by simp; omega)]
end Go.Proofs.YtekpamilcpeanaaDoor
namespace Go.Proofs.YtekpamilcpeanaaDoor
open Go.RowKit Go.Shelf
set_option linter.unusedVariables false
attribute [local go_sem] Oper.semAt_some
/-- f, but nobody on the cells of pre. -/
def delAll (f : Int → Int → Option Int) (pre : List Cel) : Int → Int → Option Int := fun x y => if pre.any (fun q => decide (q.1.1 = x ∧ q.1.2 = y)) = true then none else f x y
theorem delAll_nil (f : Int → Int → Option Int) : delAll f [] = f := by funext x y; simp [delAll]
theorem delAll_snoc (f : Int → Int → Option Int) (pre : List Cel) (q : Cel) : delAll f (pre ++ [q]) = fun u v => if u = q.1.1 ∧ v = q.1.2 then none else delAll f pre u v := by
  funext u v
  unfold delAll
  rw [List.any_append]
  by_cases h : u = q.1.1 ∧ v = q.1.2
  · rw [if_pos h, if_pos]; simp [h.1, h.2]
  · rw [if_neg h]
    have : ([q].any fun q => decide (q.1.1 = u ∧ q.1.2 = v)) = false := by simp; intro h1 h2; exact h ⟨h1.symm, h2.symm⟩
    rw [this, Bool.or_false]
theorem ownFrom_who0 {B b n : Nat} {F : List Cel → Int → Int → Option Int} (hb : b < B) : OwnFrom B (fun (pre : List Cel) W => Who W b n (F pre)) := fun s X Y row hs hg hr =>
  hs.kept (Turns.of_grown (S := fun k => row = some k) hg (fun k e => e)) (fun e => by have := (hr _ e).1; omega)
def del (l : List Bd) (i : Nat) : List Bd := l.take i ++ l.drop (i + 1)
theorem del_len {l : List Bd} {i : Nat} (h : i < l.length) : (del l i).length = l.length - 1 := by simp [del]; omega
/-- What Raze leaves. -/
def Razed (w : World) (p bm n : Nat) (W H : Int) (tv bv ev : Value) (f : Int → Int → Option Int) (l : List Bd) (es : List Rc) (i : Nat) (t : Bd) (w' : World) : Prop :=
  ∃ bv' ev', Wd w' p W H tv bv' bm ev' ∧ Bds w' bv' (del l i) ∧ Who w' bm n (delAll f (allC t.x t.y t.a t.b)) ∧ Rcs w' ev' (es ++ [t.foot]) ∧
    Turns (fun k => k = p ∨ k = bm ∨ bv.ownBlock = some k ∨ ev.ownBlock = some k) w w' ∧ (∀ k, bv'.ownBlock = some k → bv.ownBlock = some k ∨ w.heap.size ≤ k) ∧ (∀ k, ev'.ownBlock = some k → ev.ownBlock = some k ∨ w.heap.size ≤ k)
end Go.Proofs.YtekpamilcpeanaaDoor
namespace Go.Proofs.YtekpamilcpeanaaDoor
open Go.RowKit Go.Shelf
set_option linter.unusedVariables false
attribute [local go_sem] Oper.semAt_some
theorem Four.turn {S : Nat → Prop} {w w' : World} {k : Nat} {x y a b : Int} (h : Four w k x y a b) (ht : Turns S w w') (hs : ¬ S k) : Four w' k x y a b :=
  ⟨⟨ht.cell hs h.1.1, ht.cell hs h.1.2.1, ht.cell hs h.1.2.2.1, ht.cell hs h.1.2.2.2⟩,
   ⟨(World.frozen?_of_block (ht.block k h.2.2 hs)).trans h.2.1.1, (World.frozen?_of_block (ht.block k h.2.2 hs)).trans h.2.1.2.1, (World.frozen?_of_block (ht.block k h.2.2 hs)).trans h.2.1.2.2.1, (World.frozen?_of_block (ht.block k h.2.2 hs)).trans h.2.1.2.2.2⟩, Nat.lt_of_lt_of_le h.2.2 ht.size⟩
theorem Four.set {w : World} {b : Nat} {u v s t : Int} (h : Four w b u v s t) (x y a c : Int) : Four ((((w.setCell ⟨b, 0, none⟩ (.int .i64 x)).setCell ⟨b, 1, none⟩ (.int .i64 y)).setCell ⟨b, 2, none⟩ (.int .i64 a)).setCell ⟨b, 3, none⟩ (.int .i64 c)) b x y a c := by
  obtain ⟨⟨h0, h1, h2, h3⟩, ⟨f0, f1, f2, f3⟩, hz⟩ := h
  refine ⟨⟨?_, ?_, ?_, ?_⟩, ⟨?_, ?_, ?_, ?_⟩, ?_⟩
  · simp [go_sem, h0]
  · simp [go_sem, h1]
  · simp [go_sem, h2]
  · simp [go_sem, h3]
  · simpa [go_sem] using f0
  · simpa [go_sem] using f1
  · simpa [go_sem] using f2
  · simpa [go_sem] using f3
  · simpa using hz
end Go.Proofs.YtekpamilcpeanaaDoor
