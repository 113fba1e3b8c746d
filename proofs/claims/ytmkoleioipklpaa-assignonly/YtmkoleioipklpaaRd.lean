/-
  Blocks of cells; rows that are read wherever they begin; what an append leaves. Rows of pairs: shapes (class, size) and cells.
-/
import Derived.Test.YtmkoleioipklpaaBase
namespace Go.Proofs.Ytmkoleioipklpaa
open Go.RowKit
set_option linter.unusedVariables false
set_option linter.unusedSimpArgs false
/-- Block g holds the cells l, of type t. -/
def Bk (w : World) (g : Nat) (t : TypeId) (l : List Value) : Prop := w.heap[g]? = some (.cells l.toArray t (0, 0))
section
variable {w w' : World} {g : Nat} {t : TypeId} {l : List Value}
theorem Bk.lt (h : Bk w g t l) : g < w.heap.size := (Array.getElem?_eq_some_iff.1 h).1
theorem Bk.cell (h : Bk w g t l) (j : Nat) (u : Value) (hu : l[j]? = some u) : w.cell? ⟨g, j, none⟩ = some u := by
  rw [cell_of_row w g j _ _ _ h, List.getElem?_toArray]; exact hu
theorem Bk.frozen (h : Bk w g t l) (j : Nat) : w.frozen? ⟨g, j, none⟩ = false := by simp [World.frozen?, show w.heap[g]? = _ from h]
theorem Bk.same (h : Bk w g t l) (hb : w'.heap[g]? = w.heap[g]?) : Bk w' g t l := hb.trans h
theorem Bk.upto (h : Bk w g t l) (hb : Below w.heap.size w w') : Bk w' g t l := h.same (hb.block g h.lt)
theorem Bk.kept {S : Nat → Prop} (h : Bk w g t l) (ht : Turns S w w') (hn : ¬ S g) : Bk w' g t l := h.same (ht.block g h.lt hn)
theorem Bk.set (h : Bk w g t l) (j : Nat) (u : Value) : Bk (w.setCell ⟨g, j, none⟩ u) g t (l.set j u) := by
  obtain ⟨hlt, hk⟩ := Array.getElem?_eq_some_iff.1 h
  show (w.heap.modify g _)[g]? = _
  rw [Array.getElem?_eq_getElem (by rw [Array.size_modify]; exact hlt), Array.getElem_modify_self, hk]
  simp
theorem Bk.new (w : World) (t : TypeId) (l : List Value) : Bk (w.alloc (.cells l.toArray t)) w.heap.size t l := heap_alloc_new w _
theorem Bk.new2 (w : World) (o : Obj) (t : TypeId) (l : List Value) : Bk ((w.alloc o).alloc (.cells l.toArray t)) (w.heap.size + 1) t l := by
  have := Bk.new (w.alloc o) t l
  rwa [World.size_alloc] at this
theorem Bk.drew (h : Bk w g t l) : Bk w.drew g t l := h
theorem Bk.one {t' : TypeId} {l' : List Value} (h : Bk w g t l) (h' : Bk w g t' l') : t = t' ∧ l = l' := by
  unfold Bk at h h'
  rw [h] at h'
  simp at h'
  exact ⟨h'.2, h'.1⟩
end
section
variable {α : Type} {t k : Nat} {cs : α → List Value} {w w' : World} {v : Value} {l : List α}
theorem Rw.len (hk : ∀ a, (cs a).length = k) : ∀ (l : List α), (l.flatMap cs).length = l.length * k
  | [] => by simp
  | a :: r => by rw [List.flatMap_cons, List.length_append, Rw.len hk r, hk, List.length_cons, Nat.succ_mul]; omega
/-- The slice v reads as the list l, wherever it begins. -/
def Rd (k : Nat) (cs : α → List Value) (w : World) (v : Value) (l : List α) : Prop :=
  ∃ a cap, v = .slice a l.length cap ∧ l.length ≤ cap ∧ l.length ≤ maxLen ∧ (a = none → l.length = 0 ∧ cap = 0) ∧ ∀ (i : Nat) q, l[i]? = some q → ∃ g o, a = some ⟨g, o, none⟩ ∧ g < w.heap.size ∧ ∀ j u, (cs q)[j]? = some u → w.cell? ⟨g, o + i * k + j, none⟩ = some u
theorem Rd.turned {S : Nat → Prop} (h : Rd k cs w v l) (ht : Turns S w w') (hs : ∀ g, v.ownBlock = some g → ¬ S g) : Rd k cs w' v l := by
  obtain ⟨a, cap, e, h1, h2, h3, h4⟩ := h
  refine ⟨a, cap, e, h1, h2, h3, fun i x hx => ?_⟩
  obtain ⟨g, o, e1, e2, e3⟩ := h4 i x hx
  have hn : ¬ S g := hs g (by rw [e, e1]; rfl)
  exact ⟨g, o, e1, Nat.lt_of_lt_of_le e2 ht.size, fun j u hu => ht.cell hn (e3 j u hu)⟩
theorem Rd.turnedN {S : Nat → Prop} (h : Rd k cs w v l) (ht : Turns S w w') (hs : ∀ g, l ≠ [] → v.ownBlock = some g → ¬ S g) : Rd k cs w' v l := by
  obtain ⟨a, cap, e, h1, h2, h3, h4⟩ := h
  refine ⟨a, cap, e, h1, h2, h3, fun i x hx => ?_⟩
  obtain ⟨g, o, e1, e2, e3⟩ := h4 i x hx
  have hn : ¬ S g := hs g (fun e => by subst e; simp at hx) (by rw [e, e1]; rfl)
  exact ⟨g, o, e1, Nat.lt_of_lt_of_le e2 ht.size, fun j u hu => ht.cell hn (e3 j u hu)⟩
theorem Rd.kept (h : Rd k cs w v l) (hb : Below w.heap.size w w') : Rd k cs w' v l := h.turned (Turns.of_below (S := NoB) hb) (fun _ _ s => s)
theorem Rd.slice (h : Rd k cs w v l) : ∃ a cap, v = .slice a l.length cap ∧ l.length ≤ cap ∧ l.length ≤ maxLen := by
  obtain ⟨a, cap, e, h1, h2, -⟩ := h
  exact ⟨a, cap, e, h1, h2⟩
theorem Rd.cellsAt (hk : ∀ a, (cs a).length = k) {a : Option Addr} {cap : Nat} (h : Rd k cs w (.slice a l.length cap) l) : ∀ ad, a = some ad → ∀ j u, (l.flatMap cs)[j]? = some u → w.cell? (ad.add j) = some u := fun ad ha j u hu => by
  obtain ⟨a', cap', e, -, -, -, hat⟩ := h
  injection e with e1
  subst e1
  have hj : j < l.length * k := by have := (List.getElem?_eq_some_iff.1 hu).1; rwa [Rw.len hk] at this
  have hk0 : 0 < k := by
    rcases Nat.eq_zero_or_pos k with h0 | h0
    · rw [h0] at hj; simp at hj
    · exact h0
  have hd : j / k < l.length := Nat.div_lt_of_lt_mul (by rwa [Nat.mul_comm])
  have hm : j % k < k := Nat.mod_lt _ hk0
  have hjm : j / k * k + j % k = j := by rw [Nat.mul_comm]; exact Nat.div_add_mod j k
  obtain ⟨q, hq⟩ : ∃ q, l[j / k]? = some q := ⟨_, List.getElem?_eq_getElem hd⟩
  have hg := rw_get hk l (j / k) q (j % k) hq hm
  rw [hjm] at hg
  rw [hg] at hu
  obtain ⟨g, o, e1, e2, c0⟩ := hat (j / k) q hq
  rw [ha] at e1
  cases e1
  rw [Addr.add_lit]
  have := c0 (j % k) u hu
  rwa [Nat.add_assoc, hjm] at this
theorem Rw.rd (hk : ∀ a, (cs a).length = k) (h : Rw t k cs w v l) (hm : l.length ≤ maxLen) : Rd k cs w v l := by
  rcases h.2 with ⟨e, h0⟩ | ⟨g, cap, cur, e, hb, hg, hn, hm', hs, ht⟩
  · exact ⟨none, 0, by rw [h0]; exact e, by omega, hm, fun _ => ⟨h0, rfl⟩, fun i x hi => by
      have := List.eq_nil_of_length_eq_zero h0; subst this; simp at hi⟩
  · refine ⟨_, cap, e, hn, hm, (fun h => by cases h), fun i x hi => ⟨g, 0, rfl, (Array.getElem?_eq_some_iff.1 hg).1, fun j u hu => ?_⟩⟩
    have hj : j < k := by rw [← hk x]; exact (List.getElem?_eq_some_iff.1 hu).1
    have := World.ownsRow.cells h (g := g) (by rw [e]; rfl) (i * k + j) u (by rw [rw_get hk l i x j hi hj]; exact hu)
    simpa [Addr.add_lit] using this
theorem Rw.cap (h : Rw t k cs w v l) : l.length ≤ maxLen := by
  rcases h.2 with ⟨e, h0⟩ | ⟨g, cap, cur, e, hb, hg, hn, hm', hs, ht⟩
  · rw [h0]; exact Nat.zero_le _
  · exact Nat.le_trans hn hm'
theorem info_parts {P : Program} {t : TypeId} {z : Value} {s b : Nat} (h : (P.info? t).map (fun i => (i.zero, i.size, i.bytes)) = some (some z, s, b)) : ∃ i, P.info? t = some i ∧ i.zero = some z ∧ i.size = s ∧ i.bytes = b := by
  obtain ⟨i, hi, he⟩ := Option.map_eq_some_iff.1 h
  simp only [Prod.mk.injEq] at he
  exact ⟨i, hi, he.1, he.2.1, he.2.2⟩
/-- More behind: what is read wherever it begins, behind a row of the call's own. -/
theorem Rw.more {st by' : Nat} {z : Value} (hu : Try.prog.underlying st = some (.slice t)) (hi : (Try.prog.info? t).map (fun i => (i.zero, i.size, i.bytes)) = some (some z, k, by')) (hzk : z.cells.size = k) (hk0 : 0 < k) (hk : ∀ a, (cs a).length = k)
    {xv : Value} {M : List α} (h : Rw t k cs w v l) (hM : Rd k cs w xv M) (h1 : ∀ u ∈ M.flatMap cs, u.oneCell' = true) (h63 : l.length + M.length ≤ maxLen) (hby : (l.length + M.length) * by' ≤ 140737488355328) (ty : TypeId) :
    ∃ v' w', (Builtin.append_ #[st, st] ty #[v, xv]).run Try.prog w = .ok v' w' ∧ Rw t k cs w' v' (l ++ M) ∧ (v'.ownBlock = v.ownBlock ∨ v'.ownBlock = some w.heap.size) ∧ Turns (fun g => v.ownBlock = some g) w w' := by
  have hM' := hM
  obtain ⟨a, c, e, q1, q2, q3, -⟩ := hM'
  subst e
  obtain ⟨fi, hf, hz, hs, hb⟩ := info_parts hi
  cases a with
  | none =>
    obtain ⟨h0, rfl⟩ := q3 rfl
    have := List.eq_nil_of_length_eq_zero h0
    subst this
    refine ⟨v, w, ?_, by rw [List.append_nil]; exact h, .inl rfl, Turns.refl _ _⟩
    rw [List.length_nil]
    rcases h.2 with ⟨rfl, -⟩ | ⟨g, cap, cur, rfl, -, -, hn, -⟩
    · unfold Builtin.append_
      simp [run_underlying hu, sizeOf, typeInfo, hf, Builtin.lenOf, Builtin.firstCells, loadCells, loadCellsFrom, storeCells]
    · unfold Builtin.append_
      simp [run_underlying hu, sizeOf, typeInfo, hf, Builtin.lenOf, Builtin.firstCells, loadCells, loadCellsFrom, storeCells, hn]
  | some ad =>
    obtain ⟨v', w', r1, r2, r3, r4, r5⟩ := run_append_own_at (P := Try.prog) w 0 st ty t fi z k by' hu hf hz hs hb hzk hk0 v l.length _ h ad M.length c (M.flatMap cs) (Rw.len hk M) (hM.cellsAt hk ad rfl) h1 h63 hby (Nat.zero_le _)
    refine ⟨v', w', r1, ?_, r5, Turns.of_grown (S := fun g => v.ownBlock = some g) r3 (fun k e => e)⟩
    unfold Rw
    rw [List.flatMap_append, List.length_append]
    exact r2
/-- A slice of none that was built. -/
theorem Rw.built (w : World) : Rw t k cs (w.alloc (.cells #[] t)) (.slice (some ⟨w.heap.size, 0, none⟩) 0 0) [] := World.ownsRow_made w #[] 0 (Nat.zero_le _) (by decide) (by simp)
/-- A slice of one that was built. -/
theorem Rw.single (hk : ∀ a, (cs a).length = k) (w : World) (a : α) : Rw t k cs (w.alloc (.cells (cs a).toArray t)) (.slice (some ⟨w.heap.size, 0, none⟩) 1 1) [a] := by
  refine ⟨by simp [hk], .inr ⟨w.heap.size, 1, _, rfl, Nat.zero_le _, heap_alloc_new w _, Nat.le_refl _, by decide, by simp [hk], ?_⟩⟩
  have := hk a
  simp [← this]
theorem Rw.trunc {g n cap : Nat} (h : Rw t k cs w (.slice (some ⟨g, 0, none⟩) n cap) l) : Rw t k cs w (.slice (some ⟨g, 0, none⟩) 0 cap) [] := by
  rcases h.2 with ⟨e, -⟩ | ⟨g', cap', cur, e, hb, hg, hn, hm', hs, ht⟩
  · cases e
  · cases e
    exact ⟨by simp, .inr ⟨g, cap, cur, rfl, hb, hg, Nat.zero_le _, hm', hs, by simp⟩⟩
theorem Rw.shape (h : Rw t k cs w v l) : ∃ a n c, v = .slice a n c := by
  rcases h.2 with ⟨e, -⟩ | ⟨g, cap, cur, e, -⟩
  · exact ⟨_, _, _, e⟩
  · exact ⟨_, _, _, e⟩
/-- What other blocks' turning leaves: those of S hold no cells of type t. -/
theorem Rw.stay {S : Nat → Prop} (h : Rw t k cs w v l) (ht : Turns S w w') (hs : ∀ g, S g → ∀ cur, w.heap[g]? ≠ some (.cells cur t (0, 0))) : Rw t k cs w' v l :=
  h.kept ht (fun g hg s => by obtain ⟨cur, hc⟩ := h.blk hg; exact hs g s cur hc)
end
def ceCs (q : Int × Int) : List Value := [.int .i64 q.1, .int .i64 q.2]
theorem ceCs_len (q : Int × Int) : (ceCs q).length = 2 := rfl
theorem ceCs_one {L : List (Int × Int)} : ∀ u ∈ L.flatMap ceCs, u.oneCell' = true := by
  intro u hu
  obtain ⟨q, -, hq⟩ := List.mem_flatMap.1 hu
  simp [ceCs] at hq
  rcases hq with rfl | rfl <;> rfl
theorem info24 : (Try.prog.info? 35).map (fun i => (i.zero, i.size, i.bytes)) = some (some (.agg #[.int .i64 0, .int .i64 0]), 2, 16) := by kernel_rfl
/-- A row of the call's own: cells. -/
abbrev Cn (w : World) (v : Value) (L : List (Int × Int)) : Prop := Rw 35 2 ceCs w v L
/-- Pairs that are read wherever they begin. -/
abbrev CeR (w : World) (v : Value) (L : List (Int × Int)) : Prop := Rd 2 ceCs w v L
section
variable {w : World} {v xv : Value}
theorem Cn.more {L M : List (Int × Int)} (h : Cn w v L) (hM : CeR w xv M) (hn : (L.length + M.length) * 16 ≤ 140737488355328) (ty : TypeId) :
    ∃ v' w', (Builtin.append_ #[22, 22] ty #[v, xv]).run Try.prog w = .ok v' w' ∧ Cn w' v' (L ++ M) ∧ (v'.ownBlock = v.ownBlock ∨ v'.ownBlock = some w.heap.size) ∧ Turns (fun g => v.ownBlock = some g) w w' :=
  Rw.more Try.underlying22 info24 rfl (by decide) ceCs_len h hM ceCs_one (by unfold maxLen; omega) hn ty
theorem Cn.ceR {L : List (Int × Int)} (h : Cn w v L) : CeR w v L := Rw.rd ceCs_len h h.cap
/-- What a row of the call's own is as a value. -/
theorem Rw.slice {α : Type} {t k : Nat} {cs : α → List Value} {l : List α} (h : Rw t k cs w v l) : (v = .slice none 0 0 ∧ l = []) ∨ ∃ g cap, v = .slice (some ⟨g, 0, none⟩) l.length cap ∧ l.length ≤ cap ∧ cap ≤ maxLen ∧ g < w.heap.size := by
  rcases h.2 with ⟨e, h0⟩ | ⟨g, cap, cur, e, hb, hg, hn, hm', hs, ht⟩
  · exact .inl ⟨e, List.eq_nil_of_length_eq_zero h0⟩
  · exact .inr ⟨g, cap, e, hn, hm', (Array.getElem?_eq_some_iff.1 hg).1⟩
theorem CeR.at {w : World} {v : Value} {P : List (Int × Int)} {a : Option Addr} {n cap : Nat} (h : CeR w v P) (hv : v = .slice a n cap) {i : Nat} {q : Int × Int} (hi : P[i]? = some q) :
    ∃ g o, a = some ⟨g, o, none⟩ ∧ g < w.heap.size ∧ w.cell? ⟨g, o + i * 2, none⟩ = some (.int .i64 q.1) ∧ w.cell? ⟨g, o + i * 2 + 1, none⟩ = some (.int .i64 q.2) := by
  obtain ⟨a', cap', e, -, -, -, hat⟩ := h
  rw [hv] at e
  injection e with e1
  subst e1
  obtain ⟨g, o, e1, e2, e3⟩ := hat i q hi
  exact ⟨g, o, e1, e2, e3 0 _ rfl, e3 1 _ rfl⟩
end
/-- One of a row written anew. -/
theorem flat_set : ∀ (L : List (Int × Int)) (i : Nat) (x y : Int), i < L.length → ((L.flatMap ceCs).set (i * 2) (.int .i64 x)).set (i * 2 + 1) (.int .i64 y) = (L.set i (x, y)).flatMap ceCs
  | [], i, x, y, h => by simp at h
  | q :: r, 0, x, y, _ => rfl
  | q :: r, i + 1, x, y, h => by
    have ih := flat_set r i x y (by simpa using h)
    have e : (i + 1) * 2 = i * 2 + 1 + 1 := by omega
    rw [e]
    show ((Value.int .i64 q.1 :: Value.int .i64 q.2 :: r.flatMap ceCs).set (i * 2 + 1 + 1) _).set (i * 2 + 1 + 1 + 1) _ = _
    simp only [List.set_cons_succ]
    rw [ih]
    rfl
theorem Bk.put {w : World} {g : Nat} {L : List (Int × Int)} (h : Bk w g 35 (L.flatMap ceCs)) {i : Nat} (hi : i < L.length) (x y : Int) : Bk ((w.setCell ⟨g, i * 2, none⟩ (.int .i64 x)).setCell ⟨g, i * 2 + 1, none⟩ (.int .i64 y)) g 35 ((L.set i (x, y)).flatMap ceCs) := by
  rw [← flat_set L i x y hi]
  exact (h.set _ _).set _ _
theorem Bk.ceR {w : World} {g : Nat} {L : List (Int × Int)} (h : Bk w g 35 (L.flatMap ceCs)) (hm : L.length ≤ maxLen) : CeR w (.slice (some ⟨g, 0, none⟩) L.length L.length) L :=
  ⟨some ⟨g, 0, none⟩, L.length, rfl, Nat.le_refl _, hm, (fun e => by cases e), fun i q hi => ⟨g, 0, rfl, h.lt, fun j u hu => by
    have hj : j < 2 := (List.getElem?_eq_some_iff.1 hu).1
    rw [Nat.zero_add]
    exact h.cell (i * 2 + j) u (by rw [rw_get ceCs_len L i q j hi hj]; exact hu)⟩⟩
theorem two_at (j : Nat) : (ceCs (0, 0))[j % 2]? = some (.int .i64 0) := by
  rcases (show j % 2 = 0 ∨ j % 2 = 1 by omega) with e | e
  · rw [e]; rfl
  · rw [e]; rfl
theorem two_in (j : Nat) : (#[Value.int .i64 0, Value.int .i64 0] : Array Value)[j % 2]! = .int .i64 0 := by
  rcases (show j % 2 = 0 ∨ j % 2 = 1 by omega) with e | e
  · rw [e]; rfl
  · rw [e]; rfl
theorem zeros (n : Nat) : madeCells #[.int .i64 0, .int .i64 0] (n * 2) = ((List.replicate n ((0 : Int), (0 : Int))).flatMap ceCs).toArray := by
  refine Array.ext (by rw [size_madeCells, List.size_toArray, Rw.len ceCs_len, List.length_replicate]) (fun j h1 h2 => ?_)
  have h1' := h1
  rw [size_madeCells] at h1'
  have h := rw_get ceCs_len (List.replicate n ((0 : Int), (0 : Int))) (j / 2) (0, 0) (j % 2) (by rw [List.getElem?_replicate, if_pos (by omega)]) (by omega)
  rw [show j / 2 * 2 + j % 2 = j by omega, two_at] at h
  have h3 : (madeCells #[.int .i64 0, .int .i64 0] (n * 2))[j] = .int .i64 0 := by
    simp only [madeCells, Array.getElem_map, Array.getElem_range]
    exact two_in j
  rw [h3]
  obtain ⟨_, h4⟩ := List.getElem?_eq_some_iff.1 h
  rw [List.getElem_toArray, h4]
theorem run_makeCn (w : World) (n : Nat) (hn : n ≤ 64) : (Instr.makeSlice 22 (.int .i64 (n : Int)) (.int .i64 (n : Int))).run Try.prog w = .ok (.slice (some ⟨w.heap.size, 0, none⟩) n n) (w.alloc (.cells ((List.replicate n ((0 : Int), (0 : Int))).flatMap ceCs).toArray 35)) := by
  obtain ⟨fi, hf, hz, h1, h8⟩ := info_parts info24
  have hr := run_make (P := Try.prog) w 22 35 fi _ Try.underlying22 hf hz .i64 .i64 n n (by omega) (Int.le_refl _) (by rw [h8]; omega) (by omega)
  rw [hr, Int.toNat_natCast, h1, show (Value.agg #[.int .i64 0, .int .i64 0]).cells = #[.int .i64 0, .int .i64 0] from rfl, zeros]
end Go.Proofs.Ytmkoleioipklpaa
