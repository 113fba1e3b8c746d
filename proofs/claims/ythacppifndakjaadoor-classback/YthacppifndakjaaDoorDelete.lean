/-
  slices.Delete of one building.
-/
import Derived.Test.YthacppifndakjaaDoorInsert2
namespace Go.Proofs.YthacppifndakjaaDoor
open Go.RowKit
set_option linter.unusedVariables false
def z5 : List Value := [.int .i64 0, .int .i64 0, .int .i64 0, .int .i64 0, .int .i64 0]
theorem zero5 (w : World) : (zeroValue 92).run Tryd.prog w = .ok z55 w := by kernel_rfl
theorem zc5 : (Builtin.zeroCells (Value.agg #[.int .i64 0, .int .i64 0, .int .i64 0, .int .i64 0, .int .i64 0]).cells 1).toList = z5 := by kernel_rfl
theorem one_z5 : ∀ u ∈ z5, u.oneCell' = true := by
  intro u hu
  simp only [z5, List.mem_cons, List.not_mem_nil, or_false] at hu
  rcases hu with rfl | rfl | rfl | rfl | rfl <;> rfl
theorem run_clear5 (w : World) (ty : TypeId) (g o c : Nat) (cur : List Value) (hg : w.heap[g]? = some (.cells cur.toArray 92 (0, 0))) (hfit : o + 5 ≤ cur.length) :
    (Builtin.clear_ #[34] ty #[.slice (some ⟨g, o, none⟩) 1 c]).run Tryd.prog w = .ok (.tuple #[]) (w.setRow g (splice cur o z5).toArray) := by
  have hst := run_storeCells_at Tryd.prog g o 92 z5 0 cur.toArray w hg (by simpa [z5] using hfit) one_z5
  simp only [Nat.add_zero] at hst
  simp [Builtin.clear_, run_underlying Tryd.underlying34, zc5, hst, splice]
theorem wpList_clear_eq {P : Program} {w : World} {ops : Array Oper} {rest : List Oper} {o : Oper} {a : Act} {Q : Exit → Act → World → Prop} (hgd : o.guard = none) (d : Operand) (t : TypeId)
    (ho : o.op = .call { callee := .builtin .clear, args := #[d], argTypes := #[t] }) {v v' : Value} {w' : World} (hd : a.eval d = v)
    (hr : (Builtin.clear_ #[t] o.type #[v]).run P w = .ok v' w') (h : wpList P ops Q rest (a.put o.dst v') w') : wpList P ops Q (o :: rest) a w := by
  refine wpList_plain hgd fun _ hK => ?_
  unfold Oper.wp execOp
  simp only [ho, resolve, invoke, builtin, Sem.run_bind, Sem.run_pure, Result.andThen_ok, List.map_toArray, List.map_cons, List.map_nil, hd, hr]
  exact hK _ _ h
theorem step_append_eq {P : Program} {ops : Array Oper} {o : Oper} {a : Act} {w : World} {K : Act → World → Prop} {Q : Exit → Act → World → Prop} {E : Prop} (hgd : o.guard = none) (d s : Operand) (t t' : TypeId)
    (ho : o.op = .call { callee := .builtin .append, args := #[d, s], argTypes := #[t, t'] }) {v u v' : Value} {w' : World} (hd : a.eval d = v) (hs : a.eval s = u)
    (hr : (Builtin.append_ #[t, t'] o.type #[v, u]).run P w = .ok v' w') (hK : K (a.put o.dst v') w') :
    if Region.wanted o (yielded ops a.tmps) = true then Oper.wp P o a w K Q else E := by
  have hw : Region.wanted o (yielded ops a.tmps) = true := by simp [Region.wanted, hgd]
  rw [if_pos hw]
  unfold Oper.wp execOp
  simp only [ho, resolve, invoke, builtin, Sem.run_bind, Sem.run_pure, Result.andThen_ok, List.map_toArray, List.map_cons, List.map_nil, hd, hs, hr]
  exact hK
theorem run_append5 (w : World) (ty : TypeId) (g i c : Nat) (a : Addr) (m c2 : Nat) (X C : List Value) (hg : w.heap[g]? = some (.cells X.toArray 92 (0, 0))) (hC : C.length = m * 5)
    (hsrc : ∀ j u, C[j]? = some u → w.cell? (a.add j) = some u) (h1 : ∀ u ∈ C, u.oneCell' = true) (hroom : i + m ≤ c) (hfit : i * 5 + C.length ≤ X.length) :
    (Builtin.append_ #[34, 34] ty #[.slice (some ⟨g, 0, none⟩) i c, .slice (some a) m c2]).run Tryd.prog w = .ok (.slice (some ⟨g, 0, none⟩) (i + m) c) (w.setRow g (splice X (i * 5) C).toArray) := by
  obtain ⟨f, hf, hz, h5, h40⟩ := info_parts info55
  have := run_append_room (P := Tryd.prog) w 34 ty 92 f Tryd.underlying34 hf g i c X.toArray hg a m c2 C (by rw [h5]; exact hC) hsrc h1 hroom (by rw [h5]; simpa using hfit)
  rw [this, h5]
  simp [splice]
/-- What slices.Delete tells. -/
def Deleted (w : World) (g cap : Nat) (l' : List Bd) (e : Ending) (w' : World) : Prop :=
  e = .returned (.slice (some ⟨g, 0, none⟩) l'.length cap) ∧ Bds w' (.slice (some ⟨g, 0, none⟩) l'.length cap) l' ∧ w.grownBy w' (some g)
theorem splice_take {α : Type} (L Z : List α) (o : Nat) (h : o ≤ L.length) : (splice L o Z).take o = L.take o := by
  unfold splice
  rw [List.take_append_of_le_length (by simp; omega), List.take_take, Nat.min_self]
theorem splice_take2 {α : Type} (L C : List α) (o : Nat) (h : o + C.length ≤ L.length) : (splice L o C).take (o + C.length) = L.take o ++ C := by
  unfold splice
  rw [← List.append_assoc, List.take_append_of_le_length (by simp; omega), List.take_of_length_le (by simp; omega)]
end Go.Proofs.YthacppifndakjaaDoor
