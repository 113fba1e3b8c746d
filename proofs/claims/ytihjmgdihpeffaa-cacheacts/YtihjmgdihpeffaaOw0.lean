/-
  Rows of numbers that are turned; what a cache of one way keeps meanwhile.
-/
import Derived.Test.YtihjmgdihpeffaaAwk
namespace Go.Proofs.Ytihjmgdihpeffaa
open Go.RowKit
set_option linter.unusedVariables false
set_option linter.unusedSimpArgs false
/-- Block g holds numbers, n at least. -/
def Nm (w : World) (g n : Nat) : Prop := ∃ l, Bk w g 34 l ∧ ∀ j, j < n → ∃ x, l[j]? = some (.int .i64 x)
theorem Nm.at {w : World} {g n : Nat} (h : Nm w g n) {j : Nat} (hj : j < n) : ∃ x, w.cell? ⟨g, j, none⟩ = some (.int .i64 x) ∧ w.frozen? ⟨g, j, none⟩ = false := by
  obtain ⟨l, hb, hl⟩ := h
  obtain ⟨x, hx⟩ := hl j hj
  exact ⟨x, hb.cell j _ hx, hb.frozen j⟩
theorem Nm.set {w : World} {g n : Nat} (h : Nm w g n) (j : Nat) (x : Int) : Nm (w.setCell ⟨g, j, none⟩ (.int .i64 x)) g n := by
  obtain ⟨l, hb, hl⟩ := h
  refine ⟨_, hb.set j _, fun i hi => ?_⟩
  obtain ⟨y, hy⟩ := hl i hi
  by_cases e : j = i
  · subst e
    exact ⟨x, by rw [List.getElem?_set_self (List.getElem?_eq_some_iff.1 hy).1]⟩
  · exact ⟨y, by rw [List.getElem?_set_ne e]; exact hy⟩
theorem Nm.same {w w' : World} {g n : Nat} (h : Nm w g n) (hb : w'.heap[g]? = w.heap[g]?) : Nm w' g n := by
  obtain ⟨l, h1, h2⟩ := h
  exact ⟨l, h1.same hb, h2⟩
theorem Nm.lt {w : World} {g n : Nat} (h : Nm w g n) : g < w.heap.size := by
  obtain ⟨l, h1, h2⟩ := h
  exact h1.lt
theorem Nm.upto {w w' : World} {g n : Nat} (h : Nm w g n) (hb : Below w.heap.size w w') : Nm w' g n := h.same (hb.block g h.lt)
theorem Cn.nm {w : World} {g n cap : Nat} {P : List (Int × Int)} (h : Cn w (.slice (some ⟨g, 0, none⟩) n cap) P) : Nm w g (P.length * 2) := by
  rcases h.2 with ⟨e, -⟩ | ⟨g', cap', cur, e, hb, hg, hn, hm, hs, ht⟩
  · cases e
  · cases e
    refine ⟨cur.toList, by unfold Bk; simpa using hg, fun j hj => ?_⟩
    have hl := Rw.len ceCs_len P
    obtain ⟨u, hu⟩ : ∃ u, (P.flatMap ceCs)[j]? = some u := ⟨_, List.getElem?_eq_getElem (by omega)⟩
    have hx : ∃ x, u = .int .i64 x := by
      obtain ⟨q, -, hq⟩ := List.mem_flatMap.1 (List.mem_of_getElem? hu)
      simp [ceCs] at hq
      rcases hq with rfl | rfl <;> exact ⟨_, rfl⟩
    obtain ⟨x, rfl⟩ := hx
    rw [← ht, List.getElem?_take, if_pos hj] at hu
    exact ⟨x, hu⟩
/-- What a cache is apart from: a row of cells whose ways it does not hold. -/
theorem PC.apart {w : World} {c m : Nat} {ov : Value} {room ep : Int} {F : K6 → Value} {L : List En} (h : PC w c m ov room ep F L) {v : Value} {P : List (Int × Int)} (hv : Cn w v P) : ∀ g, v.ownBlock = some g → ¬ PB c m ov g := fun g hg hs =>
  h.tags (fun _ x => x) g hs (hv.blk hg).choose (hv.blk hg).choose_spec
/-- Other blocks of cells are turned. -/
theorem PC.keptS {w w' : World} {c m : Nat} {ov : Value} {room ep : Int} {F : K6 → Value} {L : List En} {S : Nat → Prop} (h : PC w c m ov room ep F L) (ht : Turns S w w') (hn : ∀ g, PB c m ov g → ¬ S g) (hw : ∀ x ∈ L, ∀ v, F x.1 = wy x.2.1 v → ∀ g, v.ownBlock = some g → ¬ S g) : PC w' c m ov room ep F L :=
  ⟨h.blk.kept ht (hn c (.inl rfl)), h.ord.kept ht (fun g e => hn g (.inr (.inr e))), h.map.kept ht (hn m (.inr (.inl rfl))), fun x hx => by obtain ⟨v, e1, e2⟩ := h.way x hx; exact ⟨v, e1, e2.kept ht (hw x hx v e1)⟩, h.fit, h.rm, h.le⟩
theorem wpList_append_run {P : Program} {w : World} {ops : Array Oper} {rest : List Oper} {o : Oper} {a : Act} {Q : Exit → Act → World → Prop}
    (hgd : o.guard = none) (s x : Operand) (t : TypeId) (ho : o.op = .call { callee := .builtin .append, args := #[s, x], argTypes := #[t, t] })
    (v xv : Value) (hs : a.eval s = v) (hx : a.eval x = xv) {v' : Value} {w' : World} (hr : (Builtin.append_ #[t, t] o.type #[v, xv]).run P w = .ok v' w') (h : wpList P ops Q rest (a.put o.dst v') w') :
    wpList P ops Q (o :: rest) a w := by
  refine wpList_plain hgd fun K hK => ?_
  unfold Oper.wp
  simp [execOp, ho, resolve, invoke, builtin, hs, hx, hr, Result.andThen]
  exact hK _ _ h
end Go.Proofs.Ytihjmgdihpeffaa
