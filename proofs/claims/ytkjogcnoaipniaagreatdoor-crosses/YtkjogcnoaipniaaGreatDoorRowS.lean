/-
  Rows of values in memory, of so many cells each. Rows of four numbers each (rectangles, portals) in memory of the call's own: what an append, a store leaves.
-/
import Derived.Test.YtkjogcnoaipniaaGreatDoorBoth
import Derived.Deep.RegionHeld
import Derived.Maps.AppendAt
import Derived.Laws.OwnMore
set_option linter.unusedSimpArgs false
namespace Go.Proofs.YtkjogcnoaipniaaGreatDoor
open Go.RowKit
set_option linter.unusedVariables false
theorem idx_lt {w h x y : Nat} (hx : x < w) (hy : y < h) : y * w + x < w * h := by
  have h1 : (y + 1) * w ≤ h * w := Nat.mul_le_mul_right w hy
  rw [Nat.succ_mul, Nat.mul_comm h w] at h1
  omega
theorem idx_mod {w x y : Nat} (hx : x < w) : (y * w + x) % w = x ∧ (y * w + x) / w = y := by
  rw [Nat.mul_comm y w, Nat.mul_add_mod, Nat.mod_eq_of_lt hx, Nat.mul_add_div (by omega), Nat.div_eq_of_lt hx]
  exact ⟨rfl, rfl⟩
section
variable {α : Type} {t k : Nat} {cs : α → List Value} {w w' : World} {v : Value} {l : List α}
/-- The slice v reads as the list l, each of k cells. -/
def Rw (t k : Nat) (cs : α → List Value) (w : World) (v : Value) (l : List α) : Prop := w.ownsRow 0 t k v l.length (l.flatMap cs)
theorem rw_get (hk : ∀ a, (cs a).length = k) : ∀ (l : List α) (i : Nat) (x : α) (j : Nat), l[i]? = some x → j < k → (l.flatMap cs)[i * k + j]? = (cs x)[j]?
  | [], i, x, j, h, _ => by simp at h
  | s :: r, 0, x, j, h, hj => by
    simp at h; subst h
    rw [List.flatMap_cons, Nat.zero_mul, Nat.zero_add, List.getElem?_append_left (by rw [hk]; exact hj)]
  | s :: r, i + 1, x, j, h, hj => by
    simp at h
    have e : (i + 1) * k = i * k + k := Nat.succ_mul i k
    rw [List.flatMap_cons, List.getElem?_append_right (by rw [hk]; omega)]
    rw [← rw_get hk r i x j h hj, hk]
    congr 1
    omega
theorem Rw.kept {S : Nat → Prop} (h : Rw t k cs w v l) (ht : Turns S w w') (hs : ∀ g, v.ownBlock = some g → ¬ S g) : Rw t k cs w' v l := by
  refine ⟨h.1, ?_⟩
  rcases h.2 with h1 | ⟨g, cap, cur, e, hb, hg, r⟩
  · exact .inl h1
  · exact .inr ⟨g, cap, cur, e, hb, ht.same (hs g (by rw [e]; rfl)) hg, r⟩
theorem Rw.upto (h : Rw t k cs w v l) (hb : Below w.heap.size w w') : Rw t k cs w' v l := h.kept (Turns.of_below (S := NoB) hb) (fun _ _ s => s)
theorem Rw.blk (h : Rw t k cs w v l) {g : Nat} (hg : v.ownBlock = some g) : ∃ cur, w.heap[g]? = some (.cells cur t (0, 0)) := by
  rcases h.2 with ⟨e, -⟩ | ⟨g', cap, cur, e, -, hc, -⟩
  · rw [e] at hg; cases hg
  · rw [e] at hg; cases hg; exact ⟨cur, hc⟩
theorem Rw.ne (h : Rw t k cs w v l) {g : Nat} (hg : v.ownBlock = some g) {p t' : Nat} {cur : Array Value} (hp : w.heap[p]? = some (.cells cur t' (0, 0))) (hn : t' ≠ t) : g ≠ p := by
  rintro rfl
  obtain ⟨c, hc⟩ := h.blk hg
  rw [hc] at hp
  injection hp with hp
  injection hp with _ hp
  exact hn hp.symm
theorem Rw.form (hk : ∀ a, (cs a).length = k) (h : Rw t k cs w v l) : ∃ a cap, v = .slice a l.length cap ∧ l.length ≤ cap ∧ ∀ i x, l[i]? = some x → ∃ g, a = some ⟨g, 0, none⟩ ∧ g < w.heap.size ∧ ∀ j u, (cs x)[j]? = some u → w.cell? ⟨g, i * k + j, none⟩ = some u := by
  rcases h.2 with ⟨e, h0⟩ | ⟨g, cap, cur, e, hb, hg, hn, hm, hs, ht⟩
  · exact ⟨none, 0, by rw [h0]; exact e, by omega, fun i x hi => by
      have := List.eq_nil_of_length_eq_zero h0; subst this; simp at hi⟩
  · refine ⟨_, cap, e, hn, fun i x hi => ⟨g, rfl, (Array.getElem?_eq_some_iff.1 hg).1, fun j u hu => ?_⟩⟩
    have hj : j < k := by rw [← hk x]; exact (List.getElem?_eq_some_iff.1 hu).1
    have := h.cells (g := g) (by rw [e]; rfl) (i * k + j) u (by rw [rw_get hk l i x j hi hj]; exact hu)
    simpa [Addr.add_lit] using this
theorem Rw.nil (t k : Nat) (cs : α → List Value) (w : World) : Rw t k cs w (.slice none 0 0) [] := World.ownsRow_nil _ _ _ _
end
theorem wp_only {c : Code} {Q : Exit → Act → World → Prop} {a : Act} {w : World} (h : Code.wp Tryz.prog c (Only (fun a' w' => Q .normal a' w')) a w) : Code.wp Tryz.prog c Q a w := by
  refine Code.wp_mono ?_ h
  rintro (_ | _ | _ | _ | _) a' w' hO
  all_goals first | exact hO.elim | exact hO
theorem two_kept {S : Nat → Prop} {W W' : World} {k : Nat} {u v : Int} (h : Two W k u v) (ht : Turns S W W') (hs : ¬ S k) : Two W' k u v := by
  have hb := ht.block k h.2.2 hs
  have hf : ∀ o, W'.frozen? ⟨k, o, none⟩ = W.frozen? ⟨k, o, none⟩ := fun o => by simp [World.frozen?, hb]
  exact ⟨⟨ht.cell hs h.1.1, ht.cell hs h.1.2⟩, ⟨(hf 0).trans h.2.1.1, (hf 1).trans h.2.1.2⟩, Nat.lt_of_lt_of_le h.2.2 ht.size⟩
theorem wrap_nat {n : Nat} (h : n ≤ 16384) : IntKind.i64.wrap (n : Int) = (n : Int) := by rw [IntKind.wrap_i64]; omega
end Go.Proofs.YtkjogcnoaipniaaGreatDoor
namespace Go.Proofs.YtkjogcnoaipniaaGreatDoor
open Go.RowKit
set_option linter.unusedVariables false
set_option linter.unusedSimpArgs false
/-- Four numbers: a rectangle, or two cells. -/
structure Q4 where
  x : Int
  y : Int
  a : Int
  b : Int
def Q4.cs (t : Q4) : List Value := [.int .i64 t.x, .int .i64 t.y, .int .i64 t.a, .int .i64 t.b]
theorem Q4.cs_len (t : Q4) : t.cs.length = 4 := rfl
abbrev Q4.v (t : Q4) : Value := .agg #[.int .i64 t.x, .int .i64 t.y, .int .i64 t.a, .int .i64 t.b]
/-- The slice v reads as the list L. -/
abbrev Rq (ty : Nat) (w : World) (v : Value) (L : List Q4) : Prop := Rw ty 4 Q4.cs w v L
theorem info48q : (Tryz.prog.info? 48).map (fun i => (i.zero, i.size, i.bytes)) = some (some (.agg #[.int .i64 0, .int .i64 0, .int .i64 0, .int .i64 0]), 4, 32) := by kernel_rfl
theorem info64q : (Tryz.prog.info? 64).map (fun i => (i.zero, i.size, i.bytes)) = some (some (.agg #[.int .i64 0, .int .i64 0, .int .i64 0, .int .i64 0]), 4, 32) := by kernel_rfl
theorem wpList_append_run {P : Program} {w : World} {ops : Array Oper} {rest : List Oper} {o : Oper} {a : Act} {Q : Exit → Act → World → Prop}
    (hgd : o.guard = none) (s x : Operand) (t : TypeId) (ho : o.op = .call { callee := .builtin .append, args := #[s, x], argTypes := #[t, t] })
    (v xv : Value) (hs : a.eval s = v) (hx : a.eval x = xv) {v' : Value} {w' : World} (hr : (Builtin.append_ #[t, t] o.type #[v, xv]).run P w = .ok v' w') (h : wpList P ops Q rest (a.put o.dst v') w') :
    wpList P ops Q (o :: rest) a w := by
  refine wpList_plain hgd fun K hK => ?_
  unfold Oper.wp
  simp [execOp, ho, resolve, invoke, builtin, hs, hx, hr, Result.andThen]
  exact hK _ _ h
theorem flat_len (L : List Q4) : (L.flatMap Q4.cs).length = L.length * 4 := by
  induction L with
  | nil => rfl
  | cons t r ih => rw [List.flatMap_cons, List.length_append, ih, Q4.cs_len, List.length_cons]; omega
theorem cs_one (L : List Q4) : ∀ u ∈ L.flatMap Q4.cs, u.oneCell' = true := by
  intro u hu
  obtain ⟨t, -, h⟩ := List.mem_flatMap.1 hu
  simp [Q4.cs] at h
  rcases h with rfl | rfl | rfl | rfl <;> rfl
section
variable {ty st : Nat} {w : World} {v : Value} {L : List Q4}
theorem Rw.slice4 (h : Rq ty w v L) : ∃ a c, v = .slice a L.length c := by
  obtain ⟨a, cap, e, -⟩ := Rw.form Q4.cs_len h
  exact ⟨a, cap, e⟩
/-- More of them behind. -/
theorem Rw.more (hu : Tryz.prog.underlying st = some (.slice ty)) (hi : (Tryz.prog.info? ty).map (fun i => (i.zero, i.size, i.bytes)) = some (some (.agg #[.int .i64 0, .int .i64 0, .int .i64 0, .int .i64 0]), 4, 32))
    (h : Rq ty w v L) {M : List Q4} {a : Addr} {c : Nat} (hM : ∀ j u, (M.flatMap Q4.cs)[j]? = some u → w.cell? (a.add j) = some u) (hlen : L.length + M.length ≤ 1000000000) :
    ∃ v' w', (Builtin.append_ #[st, st] st #[v, .slice (some a) M.length c]).run Tryz.prog w = .ok v' w' ∧ Rq ty w' v' (L ++ M) ∧ (∀ k, v'.ownBlock = some k → v.ownBlock = some k ∨ w.heap.size ≤ k) ∧ Turns (fun k => v.ownBlock = some k) w w' := by
  obtain ⟨fi, hf, hz, h1, h8⟩ := info_parts hi
  obtain ⟨v', w', q1, q2, q3, q4, q5⟩ := run_append_own_at (P := Tryz.prog) w 0 st st ty fi (.agg #[.int .i64 0, .int .i64 0, .int .i64 0, .int .i64 0]) 4 32 hu hf hz h1 h8 rfl (by decide) v L.length _ h a M.length c (M.flatMap Q4.cs) (flat_len M) hM (cs_one M) (by unfold maxLen; omega) (by omega) (Nat.zero_le _)
  refine ⟨v', w', q1, ?_, fun k e => ?_, Turns.of_grown (S := fun k => v.ownBlock = some k) q3 (fun k e => e)⟩
  · unfold Rq Rw
    rw [List.flatMap_append, List.length_append]
    exact q2
  · rcases q5 with q | q
    · exact .inl (q ▸ e)
    · rw [q] at e; cases e; exact .inr (Nat.le_refl _)
/-- One more behind. -/
theorem Rw.push4 (hu : Tryz.prog.underlying st = some (.slice ty)) (hi : (Tryz.prog.info? ty).map (fun i => (i.zero, i.size, i.bytes)) = some (some (.agg #[.int .i64 0, .int .i64 0, .int .i64 0, .int .i64 0]), 4, 32))
    (h : Rq ty w v L) (t : Q4) (hlen : L.length ≤ 1000000) :
    ∃ v' w', (Builtin.append_ #[st, st] st #[v, .slice (some ⟨w.heap.size, 0, none⟩) 1 1]).run Tryz.prog (w.alloc (.cells #[.int .i64 t.x, .int .i64 t.y, .int .i64 t.a, .int .i64 t.b] ty)) = .ok v' w' ∧ Rq ty w' v' (L ++ [t]) ∧ (∀ k, v'.ownBlock = some k → v.ownBlock = some k ∨ w.heap.size < k) ∧ Turns (fun k => v.ownBlock = some k) w w' := by
  obtain ⟨v', w', q1, q2, q3, q4⟩ := Rw.more (c := 1) hu hi (h.upto (box1 w (.cells #[.int .i64 t.x, .int .i64 t.y, .int .i64 t.a, .int .i64 t.b] ty))) (M := [t]) (a := ⟨w.heap.size, 0, none⟩) (fun j u hu => by
      rw [Addr.add_lit, Nat.zero_add, cell_of_row _ w.heap.size j _ _ _ (heap_alloc_new w _)]
      simpa [Q4.cs] using hu) (by simp; omega)
  refine ⟨v', w', q1, q2, fun k e => ?_, (Turns.of_below (box1 w _)).trans (q4.mono (fun k _ e => .inl e))⟩
  rcases q3 k e with q | q
  · exact .inl q
  · simp at q; exact .inr (by omega)
theorem Rw.own_some {v : Value} {L : List Q4} {r : Q4} (h : Rq ty w v (L ++ [r])) : ∃ g cap, v = .slice (some ⟨g, 0, none⟩) (L.length + 1) cap ∧ g < w.heap.size ∧ v.ownBlock = some g := by
  rcases h.2 with ⟨_, e⟩ | ⟨g, cap, cur, e, hb, hg, r⟩
  · simp at e
  · exact ⟨g, cap, by simpa using e, (Array.getElem?_eq_some_iff.1 hg).1, by rw [e]; rfl⟩
theorem Rw.lastq {g cap : Nat} {r : Q4} (h : Rq ty w (.slice (some ⟨g, 0, none⟩) (L.length + 1) cap) (L ++ [r])) :
    (w.cell? ⟨g, L.length * 4, none⟩ = some (.int .i64 r.x) ∧ w.cell? ⟨g, L.length * 4 + 1, none⟩ = some (.int .i64 r.y) ∧ w.cell? ⟨g, L.length * 4 + 2, none⟩ = some (.int .i64 r.a) ∧ w.cell? ⟨g, L.length * 4 + 3, none⟩ = some (.int .i64 r.b)) ∧ ∀ o, w.frozen? ⟨g, o, none⟩ = false := by
  have hc : ∀ o u, r.cs[o]? = some u → o < 4 → w.cell? ⟨g, L.length * 4 + o, none⟩ = some u := fun o u hu ho => by
    have := World.ownsRow.cells h (g := g) rfl (L.length * 4 + o) u (by rw [rw_get Q4.cs_len (L ++ [r]) L.length r o (by simp) ho]; exact hu)
    simpa [Addr.add_lit] using this
  refine ⟨⟨hc 0 _ rfl (by omega), hc 1 _ rfl (by omega), hc 2 _ rfl (by omega), hc 3 _ rfl (by omega)⟩, fun o => ?_⟩
  rcases h.2 with ⟨e, _⟩ | ⟨g', cap', cur, e, hb, hg, r⟩
  · cases e
  · simp only [Value.slice.injEq, Option.some.injEq, Addr.mk.injEq, and_true, true_and] at e
    obtain ⟨rfl, -⟩ := e
    simp [World.frozen?, hg]
theorem flat_set (L : List Q4) (r : Q4) (j : Nat) (u : Value) (hj : j < 4) : ((L ++ [r]).flatMap Q4.cs).set (L.length * 4 + j) u = L.flatMap Q4.cs ++ r.cs.set j u := by
  rw [List.flatMap_append, List.set_append_right _ _ (by rw [flat_len]; omega), flat_len]
  simp
theorem Rw.setq {g cap : Nat} {r r' : Q4} (h : Rq ty w (.slice (some ⟨g, 0, none⟩) (L.length + 1) cap) (L ++ [r])) (j : Nat) (u : Value) (hj : j < 4) (hr : r.cs.set j u = r'.cs) :
    Rq ty (w.setCell ⟨g, L.length * 4 + j, none⟩ u) (.slice (some ⟨g, 0, none⟩) (L.length + 1) cap) (L ++ [r']) := by
  have h' : w.ownsRow 0 ty 4 (.slice (some ⟨g, 0, none⟩) (L.length + 1) cap) (L.length + 1) ((L ++ [r]).flatMap Q4.cs) := by simpa [Rq, Rw] using h
  have q := (World.ownsRow.stored h' (L.length * 4 + j) u).1
  rw [flat_set L r j u hj, hr] at q
  simpa [Rq, Rw] using q
/-- The last one written anew. -/
theorem Rw.set4q {g cap : Nat} {r : Q4} (h : Rq ty w (.slice (some ⟨g, 0, none⟩) (L.length + 1) cap) (L ++ [r])) (t : Q4) :
    Rq ty ((((w.setCell ⟨g, L.length * 4, none⟩ (.int .i64 t.x)).setCell ⟨g, L.length * 4 + 1, none⟩ (.int .i64 t.y)).setCell ⟨g, L.length * 4 + 2, none⟩ (.int .i64 t.a)).setCell ⟨g, L.length * 4 + 3, none⟩ (.int .i64 t.b)) (.slice (some ⟨g, 0, none⟩) (L.length + 1) cap) (L ++ [t]) ∧
    Turns (fun j => j = g) w ((((w.setCell ⟨g, L.length * 4, none⟩ (.int .i64 t.x)).setCell ⟨g, L.length * 4 + 1, none⟩ (.int .i64 t.y)).setCell ⟨g, L.length * 4 + 2, none⟩ (.int .i64 t.a)).setCell ⟨g, L.length * 4 + 3, none⟩ (.int .i64 t.b)) := by
  constructor
  · have q0 := h.setq (r' := ⟨t.x, r.y, r.a, r.b⟩) 0 (.int .i64 t.x) (by decide) rfl
    have q1 := q0.setq (r' := ⟨t.x, t.y, r.a, r.b⟩) 1 (.int .i64 t.y) (by decide) rfl
    have q2 := q1.setq (r' := ⟨t.x, t.y, t.a, r.b⟩) 2 (.int .i64 t.a) (by decide) rfl
    exact q2.setq (r' := t) 3 (.int .i64 t.b) (by decide) rfl
  · exact (((Turns.set (S := fun j => j = g) w (p := ⟨g, L.length * 4, none⟩) rfl _).trans ((Turns.set (S := fun j => j = g) _ (p := ⟨g, L.length * 4 + 1, none⟩) rfl _).mono (fun _ _ h => .inl h))).trans ((Turns.set (S := fun j => j = g) _ (p := ⟨g, L.length * 4 + 2, none⟩) rfl _).mono (fun _ _ h => .inl h))).trans ((Turns.set (S := fun j => j = g) _ (p := ⟨g, L.length * 4 + 3, none⟩) rfl _).mono (fun _ _ h => .inl h))
end
end Go.Proofs.YtkjogcnoaipniaaGreatDoor
