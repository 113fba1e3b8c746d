/-
  Bytes that lie in memory, read as lists of numbers below 256; what append makes of them. No function of the program is run in this text.
-/
import Derived.Test.YtaioniegggfcjaaRows
import Derived.WalkKit
import Derived.WalkSpells
import Derived.WalkLawsBesides
import Derived.ArgAppend
import Derived.Laws.BytesArg
namespace Go.Proofs.Ytaioniegggfcjaa
open Go.RowKit
set_option linter.unusedVariables false
theorem hide {p : Prop} (h : p) : Hid p := h
/-- The number at a place; 0 behind the end. -/
def dig (l : List Nat) (i : Nat) : Nat := l.getD i 0
def Small (l : List Nat) : Prop := ∀ i : Nat, dig l i < 256
def cellsOf (l : List Nat) : List Value := l.map fun d => .int .u8 (d : Nat)
theorem small_nil : Small [] := by intro i; simp [dig]
theorem small_cons {d : Nat} {l : List Nat} (hd : d < 256) (h : Small l) : Small (d :: l) := by
  intro i
  cases i with
  | zero => simpa [dig] using hd
  | succ i => simpa [dig] using h i
theorem small_head {d : Nat} {l : List Nat} (h : Small (d :: l)) : d < 256 := by simpa [dig] using h 0
theorem small_tail {d : Nat} {l : List Nat} (h : Small (d :: l)) : Small l := fun i => by simpa [dig] using h (i + 1)
theorem small_append {l m : List Nat} (h : Small l) (k : Small m) : Small (l ++ m) := by
  induction l with
  | nil => simpa using k
  | cons d l ih => exact small_cons (small_head h) (ih (small_tail h))
theorem dig_drop (l : List Nat) (k i : Nat) : dig (l.drop k) i = dig l (k + i) := by
  simp [dig, List.getD_eq_getElem?_getD]
theorem small_drop {l : List Nat} (h : Small l) (k : Nat) : Small (l.drop k) := fun i => by rw [dig_drop]; exact h _
theorem dig_take {l : List Nat} {k i : Nat} (h : i < k) : dig (l.take k) i = dig l i := by
  simp [dig, List.getD_eq_getElem?_getD, List.getElem?_take_of_lt h]
theorem dig_take_le (l : List Nat) (k i : Nat) : dig (l.take k) i ≤ dig l i := by
  rcases Nat.lt_or_ge i k with h | h
  · rw [dig_take h]; exact Nat.le_refl _
  · simp [dig, List.getD_eq_getElem?_getD, List.getElem?_take, Nat.not_lt.2 h]
theorem small_take {l : List Nat} (h : Small l) (k : Nat) : Small (l.take k) := fun i => Nat.lt_of_le_of_lt (dig_take_le l k i) (h i)
theorem drop_dig {l : List Nat} {k : Nat} (h : k < l.length) : l.drop k = dig l k :: l.drop (k + 1) := by
  rw [List.drop_eq_getElem_cons h]; simp [dig, List.getD_eq_getElem?_getD, h]
theorem cellsOf_append (l m : List Nat) : cellsOf l ++ cellsOf m = cellsOf (l ++ m) := by simp [cellsOf]
theorem cellsOf_length (l : List Nat) : (cellsOf l).length = l.length := by simp [cellsOf]
theorem cellsOf_at (l : List Nat) (j : Nat) (u : Value) (h : (cellsOf l)[j]? = some u) : j < l.length ∧ u = .int .u8 (dig l j : Nat) := by
  simp only [cellsOf, List.getElem?_map, Option.map_eq_some_iff] at h
  obtain ⟨d, hd, rfl⟩ := h
  obtain ⟨h1, h2⟩ := List.getElem?_eq_some_iff.1 hd
  exact ⟨h1, by simp [dig, List.getD_eq_getElem?_getD, hd]⟩
theorem cellsOf_get {l : List Nat} {j : Nat} (h : j < l.length) : (cellsOf l)[j]? = some (.int .u8 (dig l j : Nat)) := by
  simp [cellsOf, dig, List.getD_eq_getElem?_getD, h]
theorem ext_dig {l m : List Nat} (h : l.length = m.length) (hd : ∀ i, i < l.length → dig l i = dig m i) : l = m := by
  apply List.ext_getElem h
  intro i h1 h2
  have := hd i h1
  simpa [dig, List.getD_eq_getElem?_getD, h1, h2] using this
/-- The slice v reads as the bytes l. -/
def Bys (w : World) (v : Value) (l : List Nat) : Prop :=
  Small l ∧ l.length ≤ 140737488355328 ∧ ∃ a cap, v = .slice a l.length cap ∧ l.length ≤ cap ∧ (a = none → cap = 0) ∧
    (l ≠ [] → ∃ b o, a = some ⟨b, o, none⟩ ∧ b < w.heap.size ∧ ∀ i, i < l.length → w.cell? ⟨b, o + i, none⟩ = some (.int .u8 (dig l i : Nat)))
/-- It lies in memory from block number base on, and nothing else stands in its room. -/
def Mine (base : Nat) (w : World) (v : Value) (l : List Nat) : Prop :=
  Small l ∧ l.length ≤ 140737488355328 ∧ w.ownsRow base 5 1 v l.length (cellsOf l)
theorem Bys.small {w : World} {v : Value} {l : List Nat} (h : Bys w v l) : Small l := h.1
theorem Bys.len {w : World} {v : Value} {l : List Nat} (h : Bys w v l) : l.length ≤ 140737488355328 := h.2.1
theorem Mine.small {base : Nat} {w : World} {v : Value} {l : List Nat} (h : Mine base w v l) : Small l := h.1
theorem Bys.kept {w w' : World} {v : Value} {l : List Nat} (h : Bys w v l) (hb : Below w.heap.size w w') : Bys w' v l := by
  obtain ⟨hs, hl, a, cap, hv, hc, ha, hr⟩ := h
  refine ⟨hs, hl, a, cap, hv, hc, ha, fun hne => ?_⟩
  obtain ⟨b, o, e1, e2, e3⟩ := hr hne
  refine ⟨b, o, e1, Nat.lt_of_lt_of_le e2 hb.size, fun i hi => ?_⟩
  rw [hb.cell (p := ⟨b, o + i, none⟩) e2]; exact e3 i hi
theorem Bys.keptBy {w w' : World} {v : Value} {l : List Nat} {row : Option Nat} (h : Bys w v l) (hg : w.grownBy w' row) (hne : ∀ a n c, v = .slice (some a) n c → some a.block ≠ row) : Bys w' v l := by
  obtain ⟨hs, hl, a, cap, hv, hc, ha, hr⟩ := h
  refine ⟨hs, hl, a, cap, hv, hc, ha, fun hn => ?_⟩
  obtain ⟨b, o, e1, e2, e3⟩ := hr hn
  subst e1
  have hne2 : some b ≠ row := hne _ _ _ hv
  exact ⟨b, o, rfl, Nat.lt_of_lt_of_le e2 hg.size, fun i hi => hg.cell (e3 i hi) hne2⟩
theorem Bys.nil (w : World) : Bys w (.slice none 0 0) [] := ⟨small_nil, by simp, none, 0, rfl, by simp, fun _ => rfl, fun h => absurd rfl h⟩
theorem maxLen_ge {n : Nat} (h : n ≤ 140737488355328) : n ≤ maxLen := by unfold maxLen; omega
theorem Mine.nil (base : Nat) (w : World) : Mine base w (.slice none 0 0) [] := ⟨small_nil, by simp, by simpa [cellsOf] using World.ownsRow_nil w base 5 1⟩
theorem Mine.bys {base : Nat} {w : World} {v : Value} {l : List Nat} (h : Mine base w v l) : Bys w v l := by
  obtain ⟨hs, hl, hx, ⟨rfl, h0⟩ | ⟨g, cap, cur, rfl, hb, hg, hn, hm, hsz, ht⟩⟩ := h
  · obtain rfl : l = [] := List.eq_nil_of_length_eq_zero h0
    exact Bys.nil w
  · refine ⟨hs, hl, _, cap, rfl, hn, fun h => (by cases h), fun _ => ⟨g, 0, rfl, (Array.getElem?_eq_some_iff.1 hg).1, fun i hi => ?_⟩⟩
    have e := cellsOf_get hi
    rw [← ht, List.getElem?_take_of_lt (by omega)] at e
    simp only [World.cell?, hg]
    simpa using e
theorem Mine.mono {base base' : Nat} {w : World} {v : Value} {l : List Nat} (h : Mine base w v l) (hb : base' ≤ base) : Mine base' w v l := by
  obtain ⟨hs, hl, hx, hr⟩ := h
  refine ⟨hs, hl, hx, ?_⟩
  rcases hr with h | ⟨g, cap, cur, e1, e2, r⟩
  · exact Or.inl h
  · exact Or.inr ⟨g, cap, cur, e1, Nat.le_trans hb e2, r⟩
theorem Mine.block {base : Nat} {w : World} {v : Value} {l : List Nat} (h : Mine base w v l) : ∀ k, v.ownBlock = some k → base ≤ k ∧ k < w.heap.size := h.2.2.lt
theorem Mine.keptBy {base : Nat} {w w' : World} {v : Value} {l : List Nat} {row : Option Nat} (h : Mine base w v l) (hg : w.grownBy w' row) (hne : v.ownBlock = none ∨ v.ownBlock ≠ row) : Mine base w' v l :=
  ⟨h.1, h.2.1, h.2.2.kept hg hne⟩
theorem grown_below {base : Nat} {w w' : World} {row : Option Nat} (hg : w.grownBy w' row) (hb : base ≤ w.heap.size) (hr : ∀ k, row = some k → base ≤ k) : Below base w w' :=
  (Below.refl _ _).grown hg hb hr
theorem below_grown {w w' : World} (h : Below w.heap.size w w') : w.grownBy w' none := ⟨h.os, h.tape, h.output, h.size, fun k hk _ => h.block k hk⟩
theorem Mine.kept {base : Nat} {w w' : World} {v : Value} {l : List Nat} (h : Mine base w v l) (hb : Below w.heap.size w w') : Mine base w' v l := by
  refine h.keptBy (below_grown hb) ?_
  cases hv : v.ownBlock with
  | none => exact Or.inl rfl
  | some k => exact Or.inr (by simp)
theorem grown_trans {w w' w'' : World} {row : Option Nat} (h : w.grownBy w' row) (k : w'.grownBy w'' row) : w.grownBy w'' row :=
  ⟨k.os.trans h.os, k.tape.trans h.tape, k.output.trans h.output, Nat.le_trans h.size k.size, fun i hi hne => (k.block i (Nat.lt_of_lt_of_le hi h.size) hne).trans (h.block i hi hne)⟩
theorem grown_none {w w' : World} {row : Option Nat} (h : w.grownBy w' none) : w.grownBy w' row := ⟨h.os, h.tape, h.output, h.size, fun k hk _ => h.block k hk (by simp)⟩
theorem grown_refl (w : World) (row : Option Nat) : w.grownBy w row := ⟨rfl, rfl, rfl, Nat.le_refl _, fun _ _ _ => rfl⟩
theorem info5 : (Try.prog.info? 5).map (fun i => (i.zero, i.size, i.bytes)) = some (some (.int .u8 0), 1, 1) := by kernel_rfl
theorem run_append_none (w : World) (ty : TypeId) (a : Option Addr) (n cap c : Nat) (h : n ≤ cap) : (Builtin.append_ #[22, 22] ty #[.slice a n cap, .slice none 0 c]).run Try.prog w = .ok (.slice a n cap) w := by
  obtain ⟨i0, hi, hz0, hz1, hz2⟩ := info_parts info5
  cases a <;> simp [Builtin.append_, run_underlying Try.underlying22, sizeOf, typeInfo, hi, Builtin.lenOf, h, Builtin.firstCells, storeCells]
/-- What append makes of two rows of bytes. -/
def Appended (base : Nat) (w : World) (v : Value) (l : List Nat) (v' : Value) (w' : World) : Prop :=
  Mine base w' v' l ∧ w.grownBy w' v.ownBlock ∧ (∀ k, v'.ownBlock = some k → v.ownBlock = some k ∨ w.heap.size ≤ k)
/-- append onto bytes of the call's own. -/
theorem run_append_mine (w : World) (base : Nat) (ty : TypeId) (v x : Value) (l m : List Nat) (hv : Mine base w v l) (hx : Bys w x m) (hlen : l.length + m.length ≤ 140737488355328) (hb : base ≤ w.heap.size) :
    ∃ v' w', (Builtin.append_ #[22, 22] ty #[v, x]).run Try.prog w = .ok v' w' ∧ Appended base w v (l ++ m) v' w' := by
  obtain ⟨i0, hi, hz0, hz1, hz2⟩ := info_parts info5
  obtain ⟨xs, xl, a, cap, rfl, hc, ha, hr⟩ := hx
  have h1 : ∀ u ∈ cellsOf m, u.oneCell' = true := fun u hu => by simp only [cellsOf, List.mem_map] at hu; obtain ⟨d, _, rfl⟩ := hu; rfl
  have hml := cellsOf_length m
  have key : ∀ ad, a = some ad → (∀ j u, (cellsOf m)[j]? = some u → w.cell? (ad.add j) = some u) → ∃ v' w', (Builtin.append_ #[22, 22] ty #[v, .slice a m.length cap]).run Try.prog w = .ok v' w' ∧ Appended base w v (l ++ m) v' w' := by
    rintro ad rfl hcell
    have fin : ∀ v' w' base', base ≤ base' → w'.ownsRow base' 5 1 v' (l.length + m.length) (cellsOf l ++ cellsOf m) → Mine base w' v' (l ++ m) := by
      intro v' w' base' hbb h
      rw [cellsOf_append] at h
      exact Mine.mono ⟨small_append hv.1 xs, by simpa using hlen, by simpa using h⟩ hbb
    rcases hv.2.2.2 with ⟨rfl, h0⟩ | ⟨g, cp, cur, rfl, hbg, hg, hn, hm, hsz, ht⟩
    · obtain rfl : l = [] := List.eq_nil_of_length_eq_zero h0
      obtain ⟨v', w', e1, e2, e3, _⟩ := run_append_own (P := Try.prog) w w.heap.size 22 ty 5 i0 (.int .u8 0) 1 1 Try.underlying22 hi hz0 hz1 hz2 rfl (by decide) (.slice none 0 0) 0 [] (World.ownsRow_nil w _ 5 1) ad m.length cap (cellsOf m) (by omega) hcell h1 (maxLen_ge (by simpa using hlen)) (by simpa using hlen) (Nat.le_refl _)
      exact ⟨v', w', e1, fin v' w' _ hb e2, e3, fun k hk => Or.inr (e2.lt k hk).1⟩
    · have holds : ∀ j u, (cellsOf l)[j]? = some u → w.cell? ((⟨g, 0, none⟩ : Addr).add j) = some u := hv.2.2.cells (g := g) rfl
      by_cases hroom : l.length + m.length ≤ cp
      · obtain ⟨v', w', e1, e2, e3, _⟩ := run_append_own (P := Try.prog) w base 22 ty 5 i0 (.int .u8 0) 1 1 Try.underlying22 hi hz0 hz1 hz2 rfl (by decide) _ l.length (cellsOf l) hv.2.2 ad m.length cap (cellsOf m) (by omega) hcell h1 (maxLen_ge hlen) (by omega) hb
        have hr2 := run_append_room (P := Try.prog) w 22 ty 5 i0 Try.underlying22 hi g l.length cp cur hg ad m.length cap (cellsOf m) (by rw [hz1]; omega) hcell h1 hroom (by rw [hz1]; omega)
        have hv' : v' = .slice (some ⟨g, 0, none⟩) (l.length + m.length) cp := by
          have := e1.symm.trans hr2
          injection this with e1 _
        refine ⟨v', w', e1, fin v' w' _ (Nat.le_refl _) e2, e3, fun k hk => Or.inl ?_⟩
        rw [hv'] at hk; exact hk
      · obtain ⟨v', w', e1, e2, e3⟩ := run_append_arg_grows (P := Try.prog) w 22 ty 5 i0 (.int .u8 0) 1 1 Try.underlying22 hi hz0 hz1 hz2 rfl (by decide) ⟨g, 0, none⟩ l.length cp (cellsOf l) (by rw [cellsOf_length]; omega) holds ad m.length cap (cellsOf m) (by omega) hcell (by omega) (maxLen_ge hlen) (by omega)
        exact ⟨v', w', e1, fin v' w' _ hb e2, grown_none e3, fun k hk => Or.inr (e2.lt k hk).1⟩
  by_cases hne : m = []
  · subst hne
    cases a with
    | some ad => exact key ad rfl (fun j u hj => by simp [cellsOf] at hj)
    | none =>
      obtain ⟨_, _, a', cap', rfl, hc', ha', _⟩ := hv.bys
      exact ⟨_, w, run_append_none w ty a' l.length cap' cap hc', by simpa using hv, grown_refl _ _, fun k hk => Or.inl hk⟩
  · obtain ⟨b, o, e1, e2, e3⟩ := hr hne
    refine key _ e1 (fun j u hj => ?_)
    obtain ⟨hj1, rfl⟩ := cellsOf_at m j u hj
    rw [Addr.add_lit]; exact e3 j hj1
/-- append onto bytes with no room behind them. -/
theorem run_append_full (w : World) (ty : TypeId) (a : Option Addr) (x : Value) (l m : List Nat) (hv : Bys w (.slice a l.length l.length) l) (hx : Bys w x m) (hne : m ≠ []) (hlen : l.length + m.length ≤ 140737488355328) :
    ∃ v' w', (Builtin.append_ #[22, 22] ty #[.slice a l.length l.length, x]).run Try.prog w = .ok v' w' ∧ Appended w.heap.size w (.slice none 0 0) (l ++ m) v' w' := by
  obtain ⟨i0, hi, hz0, hz1, hz2⟩ := info_parts info5
  obtain ⟨xs, xl, ax, cap, rfl, hc, ha, hr⟩ := hx
  obtain ⟨b, o, rfl, e2, e3⟩ := hr hne
  have hml := cellsOf_length m
  have hll := cellsOf_length l
  have hpos : 0 < m.length := List.length_pos_iff.2 hne
  have hcell : ∀ j u, (cellsOf m)[j]? = some u → w.cell? ((⟨b, o, none⟩ : Addr).add j) = some u := fun j u hj => by
    obtain ⟨hj1, rfl⟩ := cellsOf_at m j u hj
    rw [Addr.add_lit]; exact e3 j hj1
  cases a with
  | none =>
    obtain ⟨_, _, a', cp, he, _, ha', _⟩ := hv
    injection he with q1 q2 q3
    have h0 : l.length = 0 := by rw [q3]; exact ha' q1.symm
    obtain rfl : l = [] := List.eq_nil_of_length_eq_zero h0
    exact run_append_mine w w.heap.size ty (.slice none 0 0) _ [] m (Mine.nil _ w) ⟨xs, xl, _, cap, rfl, hc, ha, hr⟩ hlen (Nat.le_refl _)
  | some ad =>
    have holds : ∀ j u, (cellsOf l)[j]? = some u → w.cell? (ad.add j) = some u := fun j u hj => by
      obtain ⟨hj1, rfl⟩ := cellsOf_at l j u hj
      obtain ⟨_, _, a', cp, he, _, _, hr'⟩ := hv
      obtain ⟨b', o', q1, _, q3⟩ := hr' (fun h => by subst h; simp at hj1)
      injection he with r1 r2 r3
      rw [q1] at r1
      injection r1 with r1
      rw [r1, Addr.add_lit]; exact q3 j hj1
    obtain ⟨v', w', e1, e2, e3⟩ := run_append_arg_grows (P := Try.prog) w 22 ty 5 i0 (.int .u8 0) 1 1 Try.underlying22 hi hz0 hz1 hz2 rfl (by decide) ad l.length l.length (cellsOf l) (by omega) holds ⟨b, o, none⟩ m.length cap (cellsOf m) (by omega) hcell (by omega) (maxLen_ge hlen) (by omega)
    rw [cellsOf_append] at e2
    exact ⟨v', w', e1, ⟨small_append hv.1 xs, by simpa using hlen, by simpa using e2⟩, e3, fun k hk => Or.inr (e2.lt k hk).1⟩
theorem wpList_append_mine {w : World} {ops : Array Oper} {rest : List Oper} {o : Oper} {a : Act} {Q : Exit → Act → World → Prop}
    (hg : o.guard = none) (s x : Operand) (hop : o.op = Op.call { callee := Callee.builtin Builtin.append, args := #[s, x], argTypes := #[22, 22] })
    (base : Nat) (v vx : Value) (l m : List Nat) (hs : a.eval s = v) (hx : a.eval x = vx) (hv : Mine base w v l) (hm : Bys w vx m) (hlen : l.length + m.length ≤ 140737488355328) (hb : base ≤ w.heap.size)
    (hK : ∀ v' w', Appended base w v (l ++ m) v' w' → wpList Try.prog ops Q rest (a.put o.dst v') w') : wpList Try.prog ops Q (o :: rest) a w := by
  refine wpList_plain hg fun K hK' => ?_
  obtain ⟨v', w', hrun, r⟩ := run_append_mine w base o.type v vx l m hv hm hlen hb
  unfold Oper.wp
  simp [execOp, hop, resolve, invoke, builtin, hs, hx, hrun, Result.andThen]
  exact hK' _ _ (hK v' w' r)
theorem wpList_append_full {w : World} {ops : Array Oper} {rest : List Oper} {o : Oper} {a : Act} {Q : Exit → Act → World → Prop}
    (hg : o.guard = none) (s x : Operand) (hop : o.op = Op.call { callee := Callee.builtin Builtin.append, args := #[s, x], argTypes := #[22, 22] })
    (ao : Option Addr) (vx : Value) (n : Nat) (l m : List Nat) (hn : n = l.length) (hs : a.eval s = .slice ao n n) (hx : a.eval x = vx) (hv : Bys w (.slice ao n n) l) (hm : Bys w vx m) (hne : m ≠ []) (hlen : l.length + m.length ≤ 140737488355328)
    (hK : ∀ v' w', Appended w.heap.size w (.slice none 0 0) (l ++ m) v' w' → wpList Try.prog ops Q rest (a.put o.dst v') w') : wpList Try.prog ops Q (o :: rest) a w := by
  subst hn
  refine wpList_plain hg fun K hK' => ?_
  obtain ⟨v', w', hrun, r⟩ := run_append_full w o.type ao vx l m hv hm hne hlen
  unfold Oper.wp
  simp [execOp, hop, resolve, invoke, builtin, hs, hx, hrun, Result.andThen]
  exact hK' _ _ (hK v' w' r)
theorem Appended.below {base base' : Nat} {w w' : World} {v v' : Value} {l : List Nat} (h : Appended base w v l v' w') (hb : base' ≤ w.heap.size) (hv : ∀ k, v.ownBlock = some k → base' ≤ k) : Below base' w w' := grown_below h.2.1 hb hv
theorem Appended.fresh {w w' : World} {v' : Value} {l : List Nat} (h : Appended w.heap.size w (.slice none 0 0) l v' w') : Below w.heap.size w w' := grown_below h.2.1 (Nat.le_refl _) (fun k hk => by simp [Value.ownBlock] at hk)
/-- A row that was just built. -/
theorem bys_built (w : World) (l : List Nat) (hs : Small l) (hl : l.length ≤ 140737488355328) (cells : Array Value) (hc : cells = (cellsOf l).toArray) (n : Nat) (hn : n = l.length) : Bys (w.alloc (.cells cells 5)) (.slice (some ⟨w.heap.size, 0, none⟩) n n) l := by
  subst hc hn
  refine ⟨hs, hl, _, l.length, rfl, Nat.le_refl _, fun h => (by cases h), fun _ => ⟨_, _, rfl, by simp, fun i hi => ?_⟩⟩
  have e := cellsOf_get hi
  simp only [World.cell?, heap_alloc_new]
  simpa using e
theorem Bys.alloc {w : World} {v : Value} {l : List Nat} (h : Bys w v l) (o : Obj) : Bys (w.alloc o) v l := h.kept ((Below.refl _ _).alloc (Nat.le_refl _) o)
theorem Mine.alloc {base : Nat} {w : World} {v : Value} {l : List Nat} (h : Mine base w v l) (o : Obj) : Mine base (w.alloc o) v l := h.kept ((Below.refl _ _).alloc (Nat.le_refl _) o)
end Go.Proofs.Ytaioniegggfcjaa
