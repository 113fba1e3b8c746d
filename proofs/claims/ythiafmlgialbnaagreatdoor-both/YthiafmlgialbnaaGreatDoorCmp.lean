/-
  The sort of a row of edges, laid at this program (written by a tool: the table of numbers, and a row for each fact). Rows of edges in memory of the call's own: what an append leaves. The sort of a row of cells, laid at this program (written by a tool: the table of numbers, and a row for each fact). Rows of cells in memory of the call's own: what an append leaves. The order of cells, row by row, and of edges; the sorts of rows of them.
-/
import Derived.Shelf.SlLaysF0
import Derived.Shelf.SlGeneric
import Derived.Test.YthiafmlgialbnaaGreatDoorBase
import Derived.Test.YthiafmlgialbnaaGreatDoorRowS
import Derived.Shelf.GgSortFunc.InsertionK
import Derived.Shelf.SlSortCmp.WholeK
import Derived.Shelf.SlSortCmp.NoneTotal
import Derived.Test.YthiafmlgialbnaaGreatDoorSearch
import Derived.Test.YthiafmlgialbnaaGreatDoorZlast
namespace Go.Proofs.YthiafmlgialbnaaGreatDoor
open Go.Shelf
set_option linter.unusedVariables false
set_option linter.unusedSimpArgs false
def sortLayE_ren : Go.Shelf.Ren := ⟨fun | 6 => 60 | 15 => 93 | 14 => 92 | 28 => 140 | 29 => 141 | 20 => 132 | 21 => 133 | 22 => 134 | 23 => 135 | 24 => 136 | 25 => 137 | 26 => 138 | 27 => 139 | 46 => 170 | 47 => 171 | 48 => 172 | 49 => 173 | 50 => 174 | 57 => 201 | n => n, fun | 22 => 60 | 24 => 63 | 25 => 117 | 3 => 3 | 39 => 154 | 0 => 0 | 53 => 199 | 55 => 201 | 4 => 4 | 46 => 193 | 45 => 192 | 50 => 127 | 5 => 5 | 9 => 9 | 66 => 220 | 70 => 224 | 76 => 249 | 77 => 250 | n => n, fun | n => n⟩
theorem sortLayE : Go.Proofs.SlLaysF0.n6 Tryz.prog sortLayE_ren := {
  mixed := by kernel_rfl
  f6 := ⟨Tryz.f60.name, by decide, Tryz.func60.trans (congrArg some (by kernel_rfl))⟩
  f14 := ⟨Tryz.f92.name, by decide, Tryz.func92.trans (congrArg some (by kernel_rfl))⟩
  f15 := Tryz.func93.trans (congrArg some (by kernel_rfl))
  f20 := ⟨Tryz.f132.name, by decide, Tryz.func132.trans (congrArg some (by kernel_rfl))⟩
  f21 := ⟨Tryz.f133.name, by decide, Tryz.func133.trans (congrArg some (by kernel_rfl))⟩
  f22 := ⟨Tryz.f134.name, by decide, Tryz.func134.trans (congrArg some (by kernel_rfl))⟩
  f23 := ⟨Tryz.f135.name, by decide, Tryz.func135.trans (congrArg some (by kernel_rfl))⟩
  f24 := ⟨Tryz.f136.name, by decide, Tryz.func136.trans (congrArg some (by kernel_rfl))⟩
  f25 := ⟨Tryz.f137.name, by decide, Tryz.func137.trans (congrArg some (by kernel_rfl))⟩
  f26 := ⟨Tryz.f138.name, by decide, Tryz.func138.trans (congrArg some (by kernel_rfl))⟩
  f27 := ⟨Tryz.f139.name, by decide, Tryz.func139.trans (congrArg some (by kernel_rfl))⟩
  f28 := Tryz.func140.trans (congrArg some (by kernel_rfl))
  f29 := Tryz.func141.trans (congrArg some (by kernel_rfl))
  f46 := ⟨Tryz.f170.name, by decide, Tryz.func170.trans (congrArg some (by kernel_rfl))⟩
  f47 := Tryz.func171.trans (congrArg some (by kernel_rfl))
  f48 := Tryz.func172.trans (congrArg some (by kernel_rfl))
  f49 := ⟨Tryz.f173.name, by decide, Tryz.func173.trans (congrArg some (by kernel_rfl))⟩
  f50 := ⟨Tryz.f174.name, by decide, Tryz.func174.trans (congrArg some (by kernel_rfl))⟩
  f57 := ⟨Tryz.f201.name, by decide, Tryz.func201.trans (congrArg some (by kernel_rfl))⟩
  t0 := Tryz.underlying0
  a0 := Tryz.isAgg0
  z0 := Tryz.sizeOf0
  v0 := Tryz.zeroValue0
  t3 := Tryz.underlying3
  a3 := Tryz.isAgg3
  z3 := Tryz.sizeOf3
  v3 := Tryz.zeroValue3
  t4 := Tryz.underlying4
  a4 := Tryz.isAgg4
  z4 := Tryz.sizeOf4
  v4 := Tryz.zeroValue4
  t5 := Tryz.underlying5
  a5 := Tryz.isAgg5
  z5 := Tryz.sizeOf5
  v5 := Tryz.zeroValue5
  t9 := Tryz.underlying9
  a9 := Tryz.isAgg9
  z9 := Tryz.sizeOf9
  v9 := Tryz.zeroValue9
  t22 := Tryz.underlying60
  a22 := Tryz.isAgg60
  z22 := Tryz.sizeOf60
  v22 := Tryz.zeroValue60
  t25 := Tryz.underlying117
  a25 := Tryz.isAgg117
  z25 := Tryz.sizeOf117
  v25 := Tryz.zeroValue117
  t39 := Tryz.underlying154
  a39 := Tryz.isAgg154
  z39 := Tryz.sizeOf154
  v39 := Tryz.zeroValue154
  t45 := Tryz.underlying192
  a45 := Tryz.isAgg192
  z45 := Tryz.sizeOf192
  v45 := Tryz.zeroValue192
  t46 := Tryz.underlying193
  a46 := Tryz.isAgg193
  z46 := Tryz.sizeOf193
  v46 := Tryz.zeroValue193
  t50 := Tryz.underlying127
  a50 := Tryz.isAgg127
  z50 := Tryz.sizeOf127
  v50 := Tryz.zeroValue127
  t53 := Tryz.underlying199
  a53 := Tryz.isAgg199
  z53 := Tryz.sizeOf199
  v53 := Tryz.zeroValue199
  t55 := Tryz.underlying201
  a55 := Tryz.isAgg201
  z55 := Tryz.sizeOf201
  v55 := Tryz.zeroValue201
  t66 := Tryz.underlying220
  a66 := Tryz.isAgg220
  z66 := Tryz.sizeOf220
  v66 := Tryz.zeroValue220
  t70 := Tryz.underlying224
  a70 := Tryz.isAgg224
  z70 := Tryz.sizeOf224
  v70 := Tryz.zeroValue224
  t76 := Tryz.underlying249
  a76 := Tryz.isAgg249
  z76 := Tryz.sizeOf249
  v76 := Tryz.zeroValue249
  t77 := Tryz.underlying250
  a77 := Tryz.isAgg250
  z77 := Tryz.sizeOf250
  v77 := Tryz.zeroValue250 }
end Go.Proofs.YthiafmlgialbnaaGreatDoor
namespace Go.Proofs.YthiafmlgialbnaaGreatDoor
open Go.RowKit Go.Shelf Go.Sort Go.Lib
set_option linter.unusedVariables false
set_option linter.unusedSimpArgs false
structure E3 where
  x : Int
  y : Int
  c : Int
def E3.cs (t : E3) : List Value := [.int .i64 t.x, .int .i64 t.y, .int .i64 t.c]
abbrev E3.v (t : E3) : Value := .agg #[.int .i64 t.x, .int .i64 t.y, .int .i64 t.c]
theorem addnone_E (a : Option Addr) (n c : Nat) (w : World) (h : n ≤ c) : (Builtin.append_ #[60, 60] 60 #[.slice a n c, .slice none 0 0]).run Tryz.prog w = .ok (.slice a n c) w := by
  unfold Builtin.append_
  go_simp
  cases a <;> rfl
/-- Three numbers: an edge. -/
theorem E_len (t : E3) : (E3.cs t).length = 3 := rfl
theorem one_E (t : E3) : ∀ u ∈ E3.cs t, u.oneCell' = true := by
  intro u h
  simp [E3.cs] at h
  rcases h with rfl | rfl | rfl <;> rfl
abbrev RE (w : World) (v : Value) (L : List E3) : Prop := Rw 63 3 E3.cs w v L
theorem info_E : (Tryz.prog.info? 63).map (fun i => (i.zero, i.size, i.bytes)) = some (some (.agg #[.int .i64 0, .int .i64 0, .int .i64 0]), 3, 24) := by kernel_rfl
theorem flat_E (L : List E3) : (L.flatMap E3.cs).length = L.length * 3 := by
  induction L with
  | nil => rfl
  | cons t r ih => rw [List.flatMap_cons, List.length_append, ih, E_len, List.length_cons]; omega
theorem ones_E (L : List E3) : ∀ u ∈ L.flatMap E3.cs, u.oneCell' = true := by
  intro u hu
  obtain ⟨t, -, h⟩ := List.mem_flatMap.1 hu
  exact one_E t u h
section
variable {w : World} {v : Value} {L : List E3}
theorem slice_E (h : RE w v L) : ∃ a c, v = .slice a L.length c := by
  obtain ⟨a, cap, e, -⟩ := Rw.form E_len h
  exact ⟨a, cap, e⟩
/-- More of them behind. -/
theorem more_E (h : RE w v L) {M : List E3} {a : Addr} {c : Nat} (hM : ∀ j u, (M.flatMap E3.cs)[j]? = some u → w.cell? (a.add j) = some u) (hlen : L.length + M.length ≤ 1000000000) :
    ∃ v' w', (Builtin.append_ #[60, 60] 60 #[v, .slice (some a) M.length c]).run Tryz.prog w = .ok v' w' ∧ RE w' v' (L ++ M) ∧ (∀ k, v'.ownBlock = some k → v.ownBlock = some k ∨ w.heap.size ≤ k) ∧ Turns (fun k => v.ownBlock = some k) w w' := by
  obtain ⟨fi, hf, hz, h1, h8⟩ := info_parts info_E
  obtain ⟨v', w', q1, q2, q3, q4, q5⟩ := run_append_own_at (P := Tryz.prog) w 0 60 60 63 fi (.agg #[.int .i64 0, .int .i64 0, .int .i64 0]) 3 24 Tryz.underlying60 hf hz h1 h8 rfl (by decide) v L.length _ h a M.length c (M.flatMap E3.cs) (flat_E M) hM (ones_E M) (by unfold maxLen; omega) (by omega) (Nat.zero_le _)
  refine ⟨v', w', q1, ?_, fun k e => ?_, Turns.of_grown (S := fun k => v.ownBlock = some k) q3 (fun k e => e)⟩
  · unfold RE Rw
    rw [List.flatMap_append, List.length_append]
    exact q2
  · rcases q5 with q | q
    · exact .inl (q ▸ e)
    · rw [q] at e; cases e; exact .inr (Nat.le_refl _)
/-- One more behind. -/
theorem push_E (h : RE w v L) (t : E3) (hlen : L.length ≤ 1000000) :
    ∃ v' w', (Builtin.append_ #[60, 60] 60 #[v, .slice (some ⟨w.heap.size, 0, none⟩) 1 1]).run Tryz.prog (w.alloc (.cells #[.int .i64 t.x, .int .i64 t.y, .int .i64 t.c] 63)) = .ok v' w' ∧ RE w' v' (L ++ [t]) ∧ (∀ k, v'.ownBlock = some k → v.ownBlock = some k ∨ w.heap.size < k) ∧ Turns (fun k => v.ownBlock = some k) w w' := by
  obtain ⟨v', w', q1, q2, q3, q4⟩ := more_E (c := 1) (h.upto (box1 w (.cells #[.int .i64 t.x, .int .i64 t.y, .int .i64 t.c] 63))) (M := [t]) (a := ⟨w.heap.size, 0, none⟩) (fun j u hu => by
      rw [Addr.add_lit, Nat.zero_add, cell_of_row _ w.heap.size j _ _ _ (heap_alloc_new w _)]
      simpa [E3.cs] using hu) (by simp; omega)
  refine ⟨v', w', q1, q2, fun k e => ?_, (Turns.of_below (box1 w _)).trans (q4.mono (fun k _ e => .inl e))⟩
  rcases q3 k e with q | q
  · exact .inl q
  · simp at q; exact .inr (by omega)
/-- A row behind a row. -/
theorem add_E {bv : Value} {M : List E3} (h : RE w v L) (hM : RE w bv M) (hlen : L.length + M.length ≤ 1000000000) :
    ∃ v' w', (Builtin.append_ #[60, 60] 60 #[v, bv]).run Tryz.prog w = .ok v' w' ∧ RE w' v' (L ++ M) ∧ (∀ k, v'.ownBlock = some k → v.ownBlock = some k ∨ w.heap.size ≤ k) ∧ Turns (fun k => v.ownBlock = some k) w w' := by
  rcases hM.2 with ⟨rfl, h0⟩ | ⟨g, cap, cur, rfl, -, hg, hn, hm, hsz, ht⟩
  · have h1 : M = [] := List.eq_nil_of_length_eq_zero h0
    subst h1
    obtain ⟨fi, hf, hz, h1, h8⟩ := info_parts info_E
    refine ⟨v, w, ?_, by simpa using h, fun k e => .inl e, Turns.refl _ _⟩
    rcases h.2 with ⟨rfl, h0⟩ | ⟨g, cap, cur, rfl, -, hg, hn, hm, hsz, ht⟩
    · exact addnone_E none 0 0 w (Nat.le_refl _)
    · exact addnone_E _ _ _ w hn
  · exact more_E h (fun j u hu => by
      have := World.ownsRow.cells hM (g := g) rfl j u hu
      exact this) hlen
variable [hI : Inhabited (E3)]
theorem get_E (L : List E3) (j : Nat) (h : j < L.length * 3) : (flatK E3.cs 3 L.toArray)[j]! = (L.flatMap E3.cs)[j]! ∧ (L.flatMap E3.cs)[j]? = some (L.flatMap E3.cs)[j]! := by
  have hj : j < (L.flatMap E3.cs).length := by rw [flat_E]; exact h
  have h2 : (L.flatMap E3.cs)[j]? = some (L.flatMap E3.cs)[j]! := by rw [getElem!_pos _ j hj]; exact List.getElem?_eq_getElem hj
  refine ⟨?_, h2⟩
  rw [get_flatK _ _ _ j (by simpa using h)]
  have hq : j / 3 < L.length := by omega
  have h3 := rw_get E_len L (j / 3) L[j / 3] (j % 3) (List.getElem?_eq_getElem hq) (by omega)
  rw [show j / 3 * 3 + j % 3 = j by omega, h2] at h3
  have h4 : L.toArray[j / 3]! = L[j / 3] := by rw [getElem!_pos _ _ (by simpa using hq)]; simp
  rw [h4]
  have h5 : j % 3 < (E3.cs L[j / 3]).length := by rw [E_len]; omega
  rw [List.getElem?_eq_getElem h5] at h3
  rw [getElem!_pos (E3.cs L[j / 3]) (j % 3) h5]
  exact (Option.some.inj h3).symm
theorem holds_E {w : World} {g cap : Nat} {cur : Array Value} {L : List E3} (hg : w.heap[g]? = some (.cells cur 63 (0, 0))) (hn : L.length ≤ cap) (hs : cur.size = cap * 3) (ht : cur.toList.take (L.length * 3) = L.flatMap E3.cs) : HoldsK E3.cs 3 w g 0 L.toArray := by
  intro j hj
  have hj' : j < L.length * 3 := by simpa using hj
  obtain ⟨h1, h2⟩ := get_E L j hj'
  constructor
  · rw [Nat.zero_add, cell_of_row w g j _ _ _ hg, h1]
    have : cur[j]? = (L.flatMap E3.cs)[j]? := by rw [← ht, List.getElem?_take, if_pos hj', Array.getElem?_toList]
    rw [this, h2]
    rfl
  · have hlt : j < cur.size := by omega
    simp [World.frozen?, hg]
theorem after_E {w : World} {g cap : Nat} {cur : Array Value} {L : List E3} {n : Nat} {os : Array Obj} (hg : w.heap[g]? = some (.cells cur 63 (0, 0))) (hn : L.length ≤ cap) (hm : cap ≤ maxLen) (hs : cur.size = cap * 3) :
    RE (sortWorldK E3.cs 3 w g 0 n L.toArray os) (.slice (some ⟨g, 0, none⟩) L.length cap) L ∧ Turns (fun k => k = g) w (sortWorldK E3.cs 3 w g 0 n L.toArray os) := by
  have hlt : g < w.heap.size := (Array.getElem?_eq_some_iff.1 hg).1
  have hh : ∀ k, k < w.heap.size → (sortWorldK E3.cs 3 w g 0 n L.toArray os).heap[k]? = (w.heap.modify g (onCells (putCells id 0 (flatK E3.cs 3 L.toArray))))[k]? := fun k hk => by
    unfold sortWorldK grow putRowK putRow mapBlock Sort.ahead
    exact Array.getElem?_append_left (by simpa using hk)
  have hg' : (sortWorldK E3.cs 3 w g 0 n L.toArray os).heap[g]? = some (.cells (putCells id 0 (flatK E3.cs 3 L.toArray) cur) 63 (0, 0)) := by
    rw [hh g hlt, Array.getElem?_modify, if_pos rfl, hg]
    rfl
  constructor
  · refine ⟨flat_E L, .inr ⟨g, cap, _, rfl, Nat.zero_le _, hg', hn, hm, by simp [putCells, hs], ?_⟩⟩
    refine List.ext_getElem? (fun j => ?_)
    rw [List.getElem?_take]
    by_cases hj : j < L.length * 3
    · rw [if_pos hj, Array.getElem?_toList]
      obtain ⟨h1, h2⟩ := get_E L j hj
      have hc : j < cur.size := by omega
      simp only [putCells, Array.getElem?_mapIdx, Array.getElem?_eq_getElem hc, Option.map_some]
      rw [if_pos ⟨by omega, by simpa using hj⟩, Nat.sub_zero, h1, h2]
      rfl
    · rw [if_neg hj, List.getElem?_eq_none (by rw [flat_E]; omega)]
  · refine ⟨rfl, rfl, rfl, ?_, fun k hk hne => ?_⟩
    · show w.heap.size ≤ (grow _ _).heap.size
      unfold grow putRowK putRow mapBlock Sort.ahead
      simp
    · rw [hh k hk, Array.getElem?_modify, if_neg (fun e => hne e.symm)]
end
end Go.Proofs.YthiafmlgialbnaaGreatDoor
namespace Go.Proofs.YthiafmlgialbnaaGreatDoor
open Go.Shelf
set_option linter.unusedVariables false
set_option linter.unusedSimpArgs false
def sortLayC_ren : Go.Shelf.Ren := ⟨fun | 6 => 109 | 15 => 93 | 14 => 152 | 28 => 140 | 29 => 141 | 20 => 178 | 21 => 179 | 22 => 180 | 23 => 181 | 24 => 182 | 25 => 183 | 26 => 184 | 27 => 185 | 46 => 203 | 47 => 171 | 48 => 172 | 49 => 204 | 50 => 205 | 57 => 210 | n => n, fun | 22 => 68 | 24 => 47 | 25 => 133 | 3 => 3 | 39 => 154 | 0 => 0 | 53 => 199 | 55 => 201 | 4 => 4 | 46 => 193 | 45 => 192 | 50 => 127 | 5 => 5 | 9 => 9 | 66 => 220 | 70 => 224 | 76 => 249 | 77 => 250 | n => n, fun | n => n⟩
theorem sortLayC : Go.Proofs.SlLaysF0.n6 Tryz.prog sortLayC_ren := {
  mixed := by kernel_rfl
  f6 := ⟨Tryz.f109.name, by decide, Tryz.func109.trans (congrArg some (by kernel_rfl))⟩
  f14 := ⟨Tryz.f152.name, by decide, Tryz.func152.trans (congrArg some (by kernel_rfl))⟩
  f15 := Tryz.func93.trans (congrArg some (by kernel_rfl))
  f20 := ⟨Tryz.f178.name, by decide, Tryz.func178.trans (congrArg some (by kernel_rfl))⟩
  f21 := ⟨Tryz.f179.name, by decide, Tryz.func179.trans (congrArg some (by kernel_rfl))⟩
  f22 := ⟨Tryz.f180.name, by decide, Tryz.func180.trans (congrArg some (by kernel_rfl))⟩
  f23 := ⟨Tryz.f181.name, by decide, Tryz.func181.trans (congrArg some (by kernel_rfl))⟩
  f24 := ⟨Tryz.f182.name, by decide, Tryz.func182.trans (congrArg some (by kernel_rfl))⟩
  f25 := ⟨Tryz.f183.name, by decide, Tryz.func183.trans (congrArg some (by kernel_rfl))⟩
  f26 := ⟨Tryz.f184.name, by decide, Tryz.func184.trans (congrArg some (by kernel_rfl))⟩
  f27 := ⟨Tryz.f185.name, by decide, Tryz.func185.trans (congrArg some (by kernel_rfl))⟩
  f28 := Tryz.func140.trans (congrArg some (by kernel_rfl))
  f29 := Tryz.func141.trans (congrArg some (by kernel_rfl))
  f46 := ⟨Tryz.f203.name, by decide, Tryz.func203.trans (congrArg some (by kernel_rfl))⟩
  f47 := Tryz.func171.trans (congrArg some (by kernel_rfl))
  f48 := Tryz.func172.trans (congrArg some (by kernel_rfl))
  f49 := ⟨Tryz.f204.name, by decide, Tryz.func204.trans (congrArg some (by kernel_rfl))⟩
  f50 := ⟨Tryz.f205.name, by decide, Tryz.func205.trans (congrArg some (by kernel_rfl))⟩
  f57 := ⟨Tryz.f210.name, by decide, Tryz.func210.trans (congrArg some (by kernel_rfl))⟩
  t0 := Tryz.underlying0
  a0 := Tryz.isAgg0
  z0 := Tryz.sizeOf0
  v0 := Tryz.zeroValue0
  t3 := Tryz.underlying3
  a3 := Tryz.isAgg3
  z3 := Tryz.sizeOf3
  v3 := Tryz.zeroValue3
  t4 := Tryz.underlying4
  a4 := Tryz.isAgg4
  z4 := Tryz.sizeOf4
  v4 := Tryz.zeroValue4
  t5 := Tryz.underlying5
  a5 := Tryz.isAgg5
  z5 := Tryz.sizeOf5
  v5 := Tryz.zeroValue5
  t9 := Tryz.underlying9
  a9 := Tryz.isAgg9
  z9 := Tryz.sizeOf9
  v9 := Tryz.zeroValue9
  t22 := Tryz.underlying68
  a22 := Tryz.isAgg68
  z22 := Tryz.sizeOf68
  v22 := Tryz.zeroValue68
  t25 := Tryz.underlying133
  a25 := Tryz.isAgg133
  z25 := Tryz.sizeOf133
  v25 := Tryz.zeroValue133
  t39 := Tryz.underlying154
  a39 := Tryz.isAgg154
  z39 := Tryz.sizeOf154
  v39 := Tryz.zeroValue154
  t45 := Tryz.underlying192
  a45 := Tryz.isAgg192
  z45 := Tryz.sizeOf192
  v45 := Tryz.zeroValue192
  t46 := Tryz.underlying193
  a46 := Tryz.isAgg193
  z46 := Tryz.sizeOf193
  v46 := Tryz.zeroValue193
  t50 := Tryz.underlying127
  a50 := Tryz.isAgg127
  z50 := Tryz.sizeOf127
  v50 := Tryz.zeroValue127
  t53 := Tryz.underlying199
  a53 := Tryz.isAgg199
  z53 := Tryz.sizeOf199
  v53 := Tryz.zeroValue199
  t55 := Tryz.underlying201
  a55 := Tryz.isAgg201
  z55 := Tryz.sizeOf201
  v55 := Tryz.zeroValue201
  t66 := Tryz.underlying220
  a66 := Tryz.isAgg220
  z66 := Tryz.sizeOf220
  v66 := Tryz.zeroValue220
  t70 := Tryz.underlying224
  a70 := Tryz.isAgg224
  z70 := Tryz.sizeOf224
  v70 := Tryz.zeroValue224
  t76 := Tryz.underlying249
  a76 := Tryz.isAgg249
  z76 := Tryz.sizeOf249
  v76 := Tryz.zeroValue249
  t77 := Tryz.underlying250
  a77 := Tryz.isAgg250
  z77 := Tryz.sizeOf250
  v77 := Tryz.zeroValue250 }
end Go.Proofs.YthiafmlgialbnaaGreatDoor
namespace Go.Proofs.YthiafmlgialbnaaGreatDoor
open Go.RowKit Go.Shelf Go.Sort Go.Lib
set_option linter.unusedVariables false
set_option linter.unusedSimpArgs false
def cC2 (q : Int × Int) : List Value := [.int .i64 q.1, .int .i64 q.2]
/-- Two numbers: a cell. -/
theorem C_len (t : (Int × Int)) : (cC2 t).length = 2 := rfl
theorem one_C (t : (Int × Int)) : ∀ u ∈ cC2 t, u.oneCell' = true := by
  intro u h
  simp [cC2] at h
  rcases h with rfl | rfl <;> rfl
abbrev RC (w : World) (v : Value) (L : List (Int × Int)) : Prop := Rw 47 2 cC2 w v L
theorem info_C : (Tryz.prog.info? 47).map (fun i => (i.zero, i.size, i.bytes)) = some (some (.agg #[.int .i64 0, .int .i64 0]), 2, 16) := by kernel_rfl
theorem flat_C (L : List (Int × Int)) : (L.flatMap cC2).length = L.length * 2 := by
  induction L with
  | nil => rfl
  | cons t r ih => rw [List.flatMap_cons, List.length_append, ih, C_len, List.length_cons]; omega
theorem ones_C (L : List (Int × Int)) : ∀ u ∈ L.flatMap cC2, u.oneCell' = true := by
  intro u hu
  obtain ⟨t, -, h⟩ := List.mem_flatMap.1 hu
  exact one_C t u h
section
variable {w : World} {v : Value} {L : List (Int × Int)}
theorem slice_C (h : RC w v L) : ∃ a c, v = .slice a L.length c := by
  obtain ⟨a, cap, e, -⟩ := Rw.form C_len h
  exact ⟨a, cap, e⟩
/-- More of them behind. -/
theorem more_C (h : RC w v L) {M : List (Int × Int)} {a : Addr} {c : Nat} (hM : ∀ j u, (M.flatMap cC2)[j]? = some u → w.cell? (a.add j) = some u) (hlen : L.length + M.length ≤ 1000000000) :
    ∃ v' w', (Builtin.append_ #[68, 68] 68 #[v, .slice (some a) M.length c]).run Tryz.prog w = .ok v' w' ∧ RC w' v' (L ++ M) ∧ (∀ k, v'.ownBlock = some k → v.ownBlock = some k ∨ w.heap.size ≤ k) ∧ Turns (fun k => v.ownBlock = some k) w w' := by
  obtain ⟨fi, hf, hz, h1, h8⟩ := info_parts info_C
  obtain ⟨v', w', q1, q2, q3, q4, q5⟩ := run_append_own_at (P := Tryz.prog) w 0 68 68 47 fi (.agg #[.int .i64 0, .int .i64 0]) 2 16 Tryz.underlying68 hf hz h1 h8 rfl (by decide) v L.length _ h a M.length c (M.flatMap cC2) (flat_C M) hM (ones_C M) (by unfold maxLen; omega) (by omega) (Nat.zero_le _)
  refine ⟨v', w', q1, ?_, fun k e => ?_, Turns.of_grown (S := fun k => v.ownBlock = some k) q3 (fun k e => e)⟩
  · unfold RC Rw
    rw [List.flatMap_append, List.length_append]
    exact q2
  · rcases q5 with q | q
    · exact .inl (q ▸ e)
    · rw [q] at e; cases e; exact .inr (Nat.le_refl _)
/-- One more behind. -/
theorem push_C (h : RC w v L) (t : (Int × Int)) (hlen : L.length ≤ 1000000) :
    ∃ v' w', (Builtin.append_ #[68, 68] 68 #[v, .slice (some ⟨w.heap.size, 0, none⟩) 1 1]).run Tryz.prog (w.alloc (.cells #[.int .i64 t.1, .int .i64 t.2] 47)) = .ok v' w' ∧ RC w' v' (L ++ [t]) ∧ (∀ k, v'.ownBlock = some k → v.ownBlock = some k ∨ w.heap.size < k) ∧ Turns (fun k => v.ownBlock = some k) w w' := by
  obtain ⟨v', w', q1, q2, q3, q4⟩ := more_C (c := 1) (h.upto (box1 w (.cells #[.int .i64 t.1, .int .i64 t.2] 47))) (M := [t]) (a := ⟨w.heap.size, 0, none⟩) (fun j u hu => by
      rw [Addr.add_lit, Nat.zero_add, cell_of_row _ w.heap.size j _ _ _ (heap_alloc_new w _)]
      simpa [cC2] using hu) (by simp; omega)
  refine ⟨v', w', q1, q2, fun k e => ?_, (Turns.of_below (box1 w _)).trans (q4.mono (fun k _ e => .inl e))⟩
  rcases q3 k e with q | q
  · exact .inl q
  · simp at q; exact .inr (by omega)
variable [hI : Inhabited ((Int × Int))]
theorem get_C (L : List (Int × Int)) (j : Nat) (h : j < L.length * 2) : (flatK cC2 2 L.toArray)[j]! = (L.flatMap cC2)[j]! ∧ (L.flatMap cC2)[j]? = some (L.flatMap cC2)[j]! := by
  have hj : j < (L.flatMap cC2).length := by rw [flat_C]; exact h
  have h2 : (L.flatMap cC2)[j]? = some (L.flatMap cC2)[j]! := by rw [getElem!_pos _ j hj]; exact List.getElem?_eq_getElem hj
  refine ⟨?_, h2⟩
  rw [get_flatK _ _ _ j (by simpa using h)]
  have hq : j / 2 < L.length := by omega
  have h3 := rw_get C_len L (j / 2) L[j / 2] (j % 2) (List.getElem?_eq_getElem hq) (by omega)
  rw [show j / 2 * 2 + j % 2 = j by omega, h2] at h3
  have h4 : L.toArray[j / 2]! = L[j / 2] := by rw [getElem!_pos _ _ (by simpa using hq)]; simp
  rw [h4]
  have h5 : j % 2 < (cC2 L[j / 2]).length := by rw [C_len]; omega
  rw [List.getElem?_eq_getElem h5] at h3
  rw [getElem!_pos (cC2 L[j / 2]) (j % 2) h5]
  exact (Option.some.inj h3).symm
theorem holds_C {w : World} {g cap : Nat} {cur : Array Value} {L : List (Int × Int)} (hg : w.heap[g]? = some (.cells cur 47 (0, 0))) (hn : L.length ≤ cap) (hs : cur.size = cap * 2) (ht : cur.toList.take (L.length * 2) = L.flatMap cC2) : HoldsK cC2 2 w g 0 L.toArray := by
  intro j hj
  have hj' : j < L.length * 2 := by simpa using hj
  obtain ⟨h1, h2⟩ := get_C L j hj'
  constructor
  · rw [Nat.zero_add, cell_of_row w g j _ _ _ hg, h1]
    have : cur[j]? = (L.flatMap cC2)[j]? := by rw [← ht, List.getElem?_take, if_pos hj', Array.getElem?_toList]
    rw [this, h2]
    rfl
  · have hlt : j < cur.size := by omega
    simp [World.frozen?, hg]
theorem after_C {w : World} {g cap : Nat} {cur : Array Value} {L : List (Int × Int)} {n : Nat} {os : Array Obj} (hg : w.heap[g]? = some (.cells cur 47 (0, 0))) (hn : L.length ≤ cap) (hm : cap ≤ maxLen) (hs : cur.size = cap * 2) :
    RC (sortWorldK cC2 2 w g 0 n L.toArray os) (.slice (some ⟨g, 0, none⟩) L.length cap) L ∧ Turns (fun k => k = g) w (sortWorldK cC2 2 w g 0 n L.toArray os) := by
  have hlt : g < w.heap.size := (Array.getElem?_eq_some_iff.1 hg).1
  have hh : ∀ k, k < w.heap.size → (sortWorldK cC2 2 w g 0 n L.toArray os).heap[k]? = (w.heap.modify g (onCells (putCells id 0 (flatK cC2 2 L.toArray))))[k]? := fun k hk => by
    unfold sortWorldK grow putRowK putRow mapBlock Sort.ahead
    exact Array.getElem?_append_left (by simpa using hk)
  have hg' : (sortWorldK cC2 2 w g 0 n L.toArray os).heap[g]? = some (.cells (putCells id 0 (flatK cC2 2 L.toArray) cur) 47 (0, 0)) := by
    rw [hh g hlt, Array.getElem?_modify, if_pos rfl, hg]
    rfl
  constructor
  · refine ⟨flat_C L, .inr ⟨g, cap, _, rfl, Nat.zero_le _, hg', hn, hm, by simp [putCells, hs], ?_⟩⟩
    refine List.ext_getElem? (fun j => ?_)
    rw [List.getElem?_take]
    by_cases hj : j < L.length * 2
    · rw [if_pos hj, Array.getElem?_toList]
      obtain ⟨h1, h2⟩ := get_C L j hj
      have hc : j < cur.size := by omega
      simp only [putCells, Array.getElem?_mapIdx, Array.getElem?_eq_getElem hc, Option.map_some]
      rw [if_pos ⟨by omega, by simpa using hj⟩, Nat.sub_zero, h1, h2]
      rfl
    · rw [if_neg hj, List.getElem?_eq_none (by rw [flat_C]; omega)]
  · refine ⟨rfl, rfl, rfl, ?_, fun k hk hne => ?_⟩
    · show w.heap.size ≤ (grow _ _).heap.size
      unfold grow putRowK putRow mapBlock Sort.ahead
      simp
    · rw [hh k hk, Array.getElem?_modify, if_neg (fun e => hne e.symm)]
end
end Go.Proofs.YthiafmlgialbnaaGreatDoor
set_option linter.unusedSimpArgs false
namespace Go.Proofs.YthiafmlgialbnaaGreatDoor
open Go.RowKit Go.Shelf Go.Sort Go.Lib
set_option linter.unusedVariables false
theorem run_c107 {ev : Operand → Value} {o : Oper} {w : World} {ar : Array Operand} {ts : Array TypeId} {vs : Array Value} (hop : o.op = .call { callee := .value (.func 107), args := ar, argTypes := ts }) (hf : ev (.func 107) = .func (.func 107) #[] #[]) (hvs : ar.map ev = vs) : (execOp ev o).run Tryz.prog w = .ok (.enter 107 vs) w := by
  unfold execOp
  simp only [hop, resolve, hf, hvs]
  go_simp
theorem run_c111 {ev : Operand → Value} {o : Oper} {w : World} {ar : Array Operand} {ts : Array TypeId} {vs : Array Value} (hop : o.op = .call { callee := .value (.func 111), args := ar, argTypes := ts }) (hf : ev (.func 111) = .func (.func 111) #[] #[]) (hvs : ar.map ev = vs) : (execOp ev o).run Tryz.prog w = .ok (.enter 111 vs) w := by
  unfold execOp
  simp only [hop, resolve, hf, hvs]
  go_simp
theorem run_assign {P : Program} {ev : Operand → Value} {o : Oper} {w : World} {x : Operand} {v : Value} (ho : o.op = .assign x) (hx : ev x = v) : (execOp ev o).run P w = .ok (.value v) w := by
  unfold execOp; rw [ho, ← hx]; rfl
/-- A call that makes memory alone, and may draw. -/
def GrD (w w' : World) : Prop := ∃ n os, w' = grow (Sort.ahead w n) os
theorem GrD.box (w : World) (o : Obj) : GrD w (w.alloc o) := ⟨0, #[o], by rw [Sort.ahead_zero]; exact alloc_eq_grow w o⟩
theorem GrD.draw (w : World) : GrD w w.drew := ⟨1, #[], by simp [grow]; rfl⟩
theorem GrD.trans {a b c : World} (h : GrD a b) (k : GrD b c) : GrD a c := by
  obtain ⟨n1, o1, rfl⟩ := h
  obtain ⟨n2, o2, rfl⟩ := k
  exact ⟨n1 + n2, o1 ++ o2, by rw [ahead_grow, Sort.ahead_ahead, grow_grow]⟩
def orI (u v : Int) : Int := if u = 0 then v else u
set_option maxHeartbeats 1000000 in
theorem or_two (g : Nat) (u v : Int) (w : World) (h : w.heap[g]? = some (.cells #[.int .i64 u, .int .i64 v] 3)) : Calls Tryz.prog 111 #[.slice (some ⟨g, 0, none⟩) 2 2] w fun e w' => e = .returned (.int .i64 (orI u v)) ∧ w' = w := by
  have c0 : w.cell? ⟨g, 0, none⟩ = some (.int .i64 u) := by rw [cell_of_row w g 0 _ _ _ h]; rfl
  have c1 : w.cell? ⟨g, 1, none⟩ = some (.int .i64 v) := by rw [cell_of_row w g 1 _ _ _ h]; rfl
  obtain ⟨z, hz⟩ : ∃ z, orI u v = z := ⟨_, rfl⟩
  rw [hz]
  have HZ := hide hz
  clear h hz
  go_enter Tryz.func111, Tryz.ntmps111
  go_wp2_with fail
  go_loopw [8] (fun i wr => ∃ k : Nat, k ≤ 2 ∧ i = .int .i64 (k : Nat) ∧ wr = w ∧ (0 < k → u = 0) ∧ (1 < k → v = 0)) (fun i _ => 2 - (intOf i).toNat)
  case atStart => exact ⟨0, by omega, rfl, rfl, fun h => by omega, fun h => by omega⟩
  case round =>
    obtain ⟨k, hk, rfl, rfl, h1, h2⟩ := hrel
    have HH := hide (And.intro h1 h2)
    clear h1 h2
    match k, hk with
    | 0, _ =>
      by_cases hu : u = 0
      · have HU := hide hu
        go_wp2_with fail
        go_roundw
        case rel => exact ⟨1, by omega, by go_num, by first | rfl | trivial, fun _ => HU.out, fun h => by omega⟩
        case measure => simp [intOf]
      · have hz : u = z := by rw [← HZ.out]; simp [orI, hu]
        clear HZ
        subst hz
        go_wp2_with fail
        go_ret
        exact ⟨rfl, rfl⟩
    | 1, _ =>
      have hu := HH.out.1 (by omega)
      by_cases hv : v = 0
      · have HU := hide (And.intro hu hv)
        clear hu
        go_wp2_with fail
        go_roundw
        case rel => exact ⟨2, by omega, by go_num, by first | rfl | trivial, fun _ => HU.out.1, fun _ => HU.out.2⟩
        case measure => simp [intOf]
      · have hz : v = z := by rw [← HZ.out]; simp [orI, hu]
        clear HZ hu
        subst hz
        go_wp2_with fail
        go_ret
        exact ⟨rfl, rfl⟩
    | 2, _ =>
      have hu := HH.out.1 (by omega)
      have hv := HH.out.2 (by omega)
      have hz : 0 = z := by rw [← HZ.out]; simp [orI, hu, hv]
      clear HZ hu hv
      subst hz
      go_wp2_with fail
      go_ret
      exact ⟨rfl, rfl⟩
/-- Row by row. -/
def cfC (p q : Int × Int) : Int := orI (cmpI p.2 q.2) (cmpI p.1 q.1)
theorem run_ints2 {ev : Operand → Value} {o : Oper} {w : World} {x y : Operand} {a b : Int} (ho : o.op = .buildSlice 149 2 #[(0, x), (1, y)]) (hx : ev x = .int .i64 a) (hy : ev y = .int .i64 b) : (execOp ev o).run Tryz.prog w = .ok (.value (.slice (some ⟨w.heap.size, 0, none⟩) 2 2)) (w.alloc (.cells #[.int .i64 a, .int .i64 b] 3)) := by
  unfold execOp
  simp only [ho, hx, hy]
  go_simp
set_option maxHeartbeats 1000000 in
theorem cmp74 (p q : Int × Int) (w : World) : Calls Tryz.prog 74 #[cel p.1 p.2, cel q.1 q.2] w fun e w' => e = .returned (.int .i64 (cfC p q)) ∧ GrD w w' := by
  obtain ⟨a, b⟩ := p
  obtain ⟨c, d⟩ := q
  obtain ⟨X, hX⟩ : ∃ X, (w.alloc (.cells #[.int .i64 a, .int .i64 b] 47)).alloc (.cells #[.int .i64 c, .int .i64 d] 47) = X := ⟨_, rfl⟩
  have G0 : GrD w X := hX ▸ (GrD.box w _).trans (GrD.box _ _)
  have T0 : Two X w.heap.size a b := by rw [← hX]; exact (Two.newAt rfl).alloc
  have T1 : Two X (w.heap.size + 1) c d := by rw [← hX]; exact Two.newAt (by simp)
  obtain ⟨⟨c0, c1⟩, -, -⟩ := id T0
  obtain ⟨⟨c2, c3⟩, -, -⟩ := id T1
  have HS : X.drew.cell? ⟨w.heap.size, 0, none⟩ = some (.int .i64 a) ∧ X.drew.cell? ⟨w.heap.size, 1, none⟩ = some (.int .i64 b) ∧ X.drew.cell? ⟨w.heap.size + 1, 0, none⟩ = some (.int .i64 c) ∧ X.drew.cell? ⟨w.heap.size + 1, 1, none⟩ = some (.int .i64 d) := ⟨c0, c1, c2, c3⟩
  have HX := hide hX
  have HG := hide G0
  unfold cfC
  simp only
  clear hX G0 T0 T1 c0 c1 c2 c3
  go_enter Tryz.func74, Tryz.ntmps74
  go_wp2_with (rw [HX.out])
  refine wp_only ?_
  refine wp_region_z (fun wx : World => wx.cell? ⟨w.heap.size, 0, none⟩ = some (.int .i64 a) ∧ wx.cell? ⟨w.heap.size, 1, none⟩ = some (.int .i64 b) ∧ wx.cell? ⟨w.heap.size + 1, 0, none⟩ = some (.int .i64 c) ∧ wx.cell? ⟨w.heap.size + 1, 1, none⟩ = some (.int .i64 d)) [10, 11, 12] (by kernel_rfl) ?_
  refine anyZ_take 0 8 (v := .pointer (some ⟨w.heap.size, 1, none⟩)) rfl (by kernel_rfl) (fun _ _ _ h => h.elim) (Or.inl ⟨by rfl, fun wx hx => by obtain ⟨x0, x1, x2, x3⟩ := hx; clear HS; go_simp⟩) HS ?_
  try simp only [Act.put, List.getElem_toArray, List.getElem_cons_zero, List.getElem_cons_succ, List.setIfInBounds_toArray, List.set_cons_zero, List.set_cons_succ]
  refine anyZ_take 1 8 (v := .int .i64 b) rfl (by kernel_rfl) (fun _ _ _ h => h.elim) (Or.inl ⟨by rfl, fun wx hx => by obtain ⟨x0, x1, x2, x3⟩ := hx; clear HS; go_simp⟩) HS ?_
  try simp only [Act.put, List.getElem_toArray, List.getElem_cons_zero, List.getElem_cons_succ, List.setIfInBounds_toArray, List.set_cons_zero, List.set_cons_succ]
  refine anyZ_take 2 8 (v := .pointer (some ⟨w.heap.size + 1, 1, none⟩)) rfl (by kernel_rfl) (fun _ _ _ h => h.elim) (Or.inl ⟨by rfl, fun wx hx => by obtain ⟨x0, x1, x2, x3⟩ := hx; clear HS; go_simp⟩) HS ?_
  try simp only [Act.put, List.getElem_toArray, List.getElem_cons_zero, List.getElem_cons_succ, List.setIfInBounds_toArray, List.set_cons_zero, List.set_cons_succ]
  refine anyZ_take 3 8 (v := .int .i64 d) rfl (by kernel_rfl) (fun _ _ _ h => h.elim) (Or.inl ⟨by rfl, fun wx hx => by obtain ⟨x0, x1, x2, x3⟩ := hx; clear HS; go_simp⟩) HS ?_
  try simp only [Act.put, List.getElem_toArray, List.getElem_cons_zero, List.getElem_cons_succ, List.setIfInBounds_toArray, List.set_cons_zero, List.set_cons_succ]
  refine anyZ_take 5 8 (v := .pointer (some ⟨w.heap.size, 0, none⟩)) rfl (by kernel_rfl) (fun _ _ _ h => h.elim) (Or.inl ⟨by rfl, fun wx hx => by obtain ⟨x0, x1, x2, x3⟩ := hx; clear HS; go_simp⟩) HS ?_
  try simp only [Act.put, List.getElem_toArray, List.getElem_cons_zero, List.getElem_cons_succ, List.setIfInBounds_toArray, List.set_cons_zero, List.set_cons_succ]
  refine anyZ_take 6 8 (v := .int .i64 a) rfl (by kernel_rfl) (fun _ _ _ h => h.elim) (Or.inl ⟨by rfl, fun wx hx => by obtain ⟨x0, x1, x2, x3⟩ := hx; clear HS; go_simp⟩) HS ?_
  try simp only [Act.put, List.getElem_toArray, List.getElem_cons_zero, List.getElem_cons_succ, List.setIfInBounds_toArray, List.set_cons_zero, List.set_cons_succ]
  refine anyZ_take 7 8 (v := .pointer (some ⟨w.heap.size + 1, 0, none⟩)) rfl (by kernel_rfl) (fun _ _ _ h => h.elim) (Or.inl ⟨by rfl, fun wx hx => by obtain ⟨x0, x1, x2, x3⟩ := hx; clear HS; go_simp⟩) HS ?_
  try simp only [Act.put, List.getElem_toArray, List.getElem_cons_zero, List.getElem_cons_succ, List.setIfInBounds_toArray, List.set_cons_zero, List.set_cons_succ]
  refine anyZ_take 8 8 (v := .int .i64 c) rfl (by kernel_rfl) (fun _ _ _ h => h.elim) (Or.inl ⟨by rfl, fun wx hx => by obtain ⟨x0, x1, x2, x3⟩ := hx; clear HS; go_simp⟩) HS ?_
  try simp only [Act.put, List.getElem_toArray, List.getElem_cons_zero, List.getElem_cons_succ, List.setIfInBounds_toArray, List.set_cons_zero, List.set_cons_succ]
  refine anyZ_ready (rs := [4]) (by kernel_rfl) (by simp) ?_
  refine readyZ.call rfl rfl (run_c107 (by rfl) (by rfl) (by simp only [List.map_toArray, List.map_cons, List.map_nil]; rfl)) (cmp_any b d _) ?_ readyZ.nil
  rintro e w1 ⟨rfl, rfl⟩
  refine ⟨_, rfl, fun _ => HS, ?_⟩
  try simp only [Act.put, List.getElem_toArray, List.getElem_cons_zero, List.getElem_cons_succ, List.setIfInBounds_toArray, List.set_cons_zero, List.set_cons_succ]
  refine anyZ_ready (rs := [9]) (by kernel_rfl) (by simp) ?_
  refine readyZ.call rfl rfl (run_c107 (by rfl) (by rfl) (by simp only [List.map_toArray, List.map_cons, List.map_nil]; rfl)) (cmp_any a c _) ?_ readyZ.nil
  rintro e w1 ⟨rfl, rfl⟩
  refine ⟨_, rfl, fun _ => HS, ?_⟩
  try simp only [Act.put, List.getElem_toArray, List.getElem_cons_zero, List.getElem_cons_succ, List.setIfInBounds_toArray, List.set_cons_zero, List.set_cons_succ]
  refine anyZ_ready (rs := [10]) (by kernel_rfl) (by simp) ?_
  refine readyZ.cons rfl rfl (run_ints2 (by rfl) (by rfl) (by rfl)) (fun h => absurd (by decide) h) ?_ readyZ.nil
  try simp only [Act.put, List.getElem_toArray, List.getElem_cons_zero, List.getElem_cons_succ, List.setIfInBounds_toArray, List.set_cons_zero, List.set_cons_succ]
  obtain ⟨Y, hY⟩ : ∃ Y, X.drew.alloc (.cells #[.int .i64 (cmpI b d), .int .i64 (cmpI a c)] 3) = Y := ⟨_, rfl⟩
  have GY : GrD w Y := HG.out.trans ((GrD.draw X).trans (hY ▸ GrD.box _ _))
  have hcy : Y.heap[X.drew.heap.size]? = some (.cells #[.int .i64 (cmpI b d), .int .i64 (cmpI a c)] 3) := hY ▸ heap_alloc_new _ _
  rw [hY]
  refine anyZ_ready (rs := [11]) (by kernel_rfl) (by simp) ?_
  refine readyZ.call rfl rfl (run_c111 (by rfl) (by rfl) (by simp only [List.map_toArray, List.map_cons, List.map_nil]; rfl)) (or_two _ _ _ _ hcy) ?_ readyZ.nil
  rintro e w1 ⟨rfl, rfl⟩
  refine ⟨_, rfl, fun h => absurd (by decide) h, ?_⟩
  try simp only [Act.put, List.getElem_toArray, List.getElem_cons_zero, List.getElem_cons_succ, List.setIfInBounds_toArray, List.set_cons_zero, List.set_cons_succ]
  refine anyZ_ready (rs := [12]) (by kernel_rfl) (by simp) ?_
  refine readyZ.cons rfl rfl (run_assign (by rfl) (by rfl)) (fun h => absurd (by decide) h) ?_ readyZ.nil
  try simp only [Act.put, List.getElem_toArray, List.getElem_cons_zero, List.getElem_cons_succ, List.setIfInBounds_toArray, List.set_cons_zero, List.set_cons_succ]
  refine anyZ_done (by kernel_rfl) ?_ _
  dsimp only [Only, Exit.then]
  go_wp2_with fail
  refine bodyPost_ret (v := .int .i64 (orI (cmpI b d) (cmpI a c))) (by simp [results, Tryz.f74, go_sem]) rfl ?_
  exact ⟨rfl, GY⟩
/-- By where they lead. -/
def cfE (p q : E3) : Int := cfC (p.x, p.y) (q.x, q.y)
set_option maxHeartbeats 1000000 in
theorem cmp61 (p q : E3) (w : World) : Calls Tryz.prog 61 #[p.v, q.v] w fun e w' => e = .returned (.int .i64 (cfE p q)) ∧ GrD w w' := by
  obtain ⟨a, b, k⟩ := p
  obtain ⟨c, d, l⟩ := q
  obtain ⟨X, hX⟩ : ∃ X, (w.alloc (.cells #[.int .i64 a, .int .i64 b, .int .i64 k] 63)).alloc (.cells #[.int .i64 c, .int .i64 d, .int .i64 l] 63) = X := ⟨_, rfl⟩
  have G0 : GrD w X := hX ▸ (GrD.box w _).trans (GrD.box _ _)
  have h0 : X.heap[w.heap.size]? = some (.cells #[.int .i64 a, .int .i64 b, .int .i64 k] 63) := by rw [← hX]; exact (Below.heap_alloc _ _ _ (by simp)).trans (World.alloc_heap_new w _)
  have h1 : X.heap[w.heap.size + 1]? = some (.cells #[.int .i64 c, .int .i64 d, .int .i64 l] 63) := by rw [← hX]; have := World.alloc_heap_new (w.alloc (.cells #[.int .i64 a, .int .i64 b, .int .i64 k] 63)) (.cells #[.int .i64 c, .int .i64 d, .int .i64 l] 63); rwa [World.size_alloc] at this
  have c0 : X.cell? ⟨w.heap.size, 0, none⟩ = some (.int .i64 a) := by rw [cell_of_row X _ 0 _ _ _ h0]; rfl
  have c1 : X.cell? ⟨w.heap.size, 1, none⟩ = some (.int .i64 b) := by rw [cell_of_row X _ 1 _ _ _ h0]; rfl
  have c2 : X.cell? ⟨w.heap.size + 1, 0, none⟩ = some (.int .i64 c) := by rw [cell_of_row X _ 0 _ _ _ h1]; rfl
  have c3 : X.cell? ⟨w.heap.size + 1, 1, none⟩ = some (.int .i64 d) := by rw [cell_of_row X _ 1 _ _ _ h1]; rfl
  have H1 := hide (cmp74 (a, b) (c, d) X)
  have HX := hide hX
  have HG := hide G0
  unfold cfE
  simp only
  generalize cfC (a, b) (c, d) = z at H1 ⊢
  clear hX G0 h0 h1
  go_enter Tryz.func61, Tryz.ntmps61
  go_wp2_with (rw [HX.out])
  refine H1.out.mono ?_
  rintro e w1 ⟨rfl, g1⟩
  have HG1 := hide (HG.out.trans g1)
  clear g1 c0 c1 c2 c3
  go_wp2_with fail
  go_ret
  exact ⟨rfl, HG1.out⟩
/-- A cell comes ahead of another one. -/
def clt (p q : Int × Int) : Prop := p.2 < q.2 ∨ (p.2 = q.2 ∧ p.1 < q.1)
theorem cmpI_neg (a b : Int) : (cmpI a b < 0 ↔ a < b) ∧ (cmpI a b = 0 ↔ a = b) := by
  unfold cmpI
  split
  · omega
  · split <;> omega
theorem cfC_neg (p q : Int × Int) : cfC p q < 0 ↔ clt p q := by
  have h1 := cmpI_neg p.2 q.2
  have h2 := cmpI_neg p.1 q.1
  unfold cfC orI clt
  generalize cmpI p.2 q.2 = u at *
  generalize cmpI p.1 q.1 = v at *
  split <;> omega
theorem clt_irrefl (p : Int × Int) : ¬ clt p p := by unfold clt; omega
theorem clt_trans {p q r : Int × Int} (h : clt p q) (k : clt q r) : clt p r := by unfold clt at *; omega
theorem clt_ntrans {p q r : Int × Int} (h : ¬ clt p q) (k : ¬ clt q r) : ¬ clt p r := by unfold clt at *; omega
theorem clt_anti {p q : Int × Int} (h : ¬ clt p q) (k : ¬ clt q p) : p = q := by
  unfold clt at *
  exact Prod.ext (by omega) (by omega)
open Classical in
theorem lt_C (p q : Int × Int) : ltOf cfC p q = decide (clt p q) := by
  unfold ltOf
  by_cases h : clt p q
  · have := (cfC_neg p q).2 h
    simp [h, this]
  · have : ¬ cfC p q < 0 := fun k => h ((cfC_neg p q).1 k)
    simp [h]; omega
abbrev E3.to (e : E3) : Int × Int := (e.x, e.y)
open Classical in
theorem lt_E (p q : E3) : ltOf cfE p q = decide (clt p.to q.to) := by
  exact lt_C p.to q.to
theorem swo_C : SWO (ltOf cfC) where
  irrefl x := by rw [lt_C]; simp [clt_irrefl]
  trans x y z h1 h2 := by rw [lt_C] at *; simp at *; exact clt_trans h1 h2
  ntrans x y z h1 h2 := by rw [lt_C] at *; simp at *; exact clt_ntrans h1 h2
theorem swo_E : SWO (ltOf cfE) where
  irrefl x := by rw [lt_E]; simp [clt_irrefl]
  trans x y z h1 h2 := by rw [lt_E] at *; simp at *; exact clt_trans h1 h2
  ntrans x y z h1 h2 := by rw [lt_E] at *; simp at *; exact clt_ntrans h1 h2
def SrtC (l : List (Int × Int)) : Prop := l.Pairwise (fun p q => ¬ clt q p)
def SrtE (l : List E3) : Prop := l.Pairwise (fun p q => ¬ clt q.to p.to)
/-- The sort. -/
theorem sort_E {L : List E3} {v : Value} {w : World} (hlen : L.length ≤ 1000000) (h : RE w v L) :
    Calls Tryz.prog 60 #[v, .func (.func 61) #[] #[]] w fun e w' => e = .returned (.tuple #[]) ∧ ∃ M, M.Perm L ∧ SrtE M ∧ RE w' v M ∧ Turns (fun j => v.ownBlock = some j) w w' := by
  rcases h.2 with ⟨rfl, h0⟩ | ⟨g, cap, cur, rfl, -, hg, hn, hm, hsz, ht⟩
  · have h1 : L = [] := List.eq_nil_of_length_eq_zero h0
    subst h1
    have hcon := AnyF.slices_SortFunc_none sortLayE none 0 (.func (.func 61) #[] #[]) w
    change Calls Tryz.prog 60 _ _ _ at hcon
    refine hcon.mono ?_
    rintro e w' ⟨rfl, rfl⟩
    exact ⟨rfl, [], .refl _, List.Pairwise.nil, Rw.nil _ _ _ _, Turns.of_below (Below.refl _ _)⟩
  have hI : Inhabited (E3) := ⟨⟨0, 0, 0⟩⟩
  have eg : ∀ args w, (callFunc 61 args).run Tryz.prog w = .ok (.enter 61 args) w := enters_of Tryz.func61 (by kernel_rfl) rfl
  have hcon := AnyQ.slices_SortFunc sortLayE 3 Tryz.isAgg63 Tryz.sizeOf63 E3.cs E_len one_E cfE swo_E 61 #[] g 0 cap L.toArray w eg (fun _ _ _ _ x y => (cmp61 x y _).mono (fun e w' ⟨h1, n, os, h2⟩ => ⟨h1, n, os, h2⟩)) (holds_E hg hn hsz ht) (Array.getElem?_eq_some_iff.1 hg).1 (by simp; omega)
  change Calls Tryz.prog 60 _ _ _ at hcon
  rw [List.size_toArray] at hcon
  refine hcon.mono ?_
  rintro e w' ⟨rfl, d', n, os, hpm, hso, rfl⟩
  obtain ⟨z1, -, z3⟩ := hpm
  have zs : d'.size = L.length := by rw [z1]; simp
  have hp' : d'.toList.Perm L := by
    have e1 : d'.extract 0 L.length = d' := by rw [← zs]; simp
    have e2 : L.toArray.extract 0 L.length = L.toArray := by simp
    rwa [e1, e2] at z3
  have hlL : d'.toList.length = L.length := hp'.length_eq
  have hss : SrtE d'.toList := by
    unfold SrtE
    rw [List.pairwise_iff_getElem]
    intro i j hi hj hij
    have := hso i j (Nat.zero_le _) hij (by omega)
    rw [lt_E] at this
    rw [getElem!_pos _ j (by simpa using hj), getElem!_pos _ i (by simpa using hi)] at this
    simpa using this
  obtain ⟨r1, r2⟩ := after_E (L := d'.toList) (n := n) (os := os) hg (by omega) hm hsz
  have hd : d'.toList.toArray = d' := by simp
  rw [hd, hlL] at r1
  rw [hd] at r2
  exact ⟨rfl, d'.toList, hp', hss, r1, r2.mono (fun j _ e => by rw [e]; rfl)⟩
/-- The sort. -/
theorem sort_C {L : List (Int × Int)} {v : Value} {w : World} (hlen : L.length ≤ 1000000) (h : RC w v L) :
    Calls Tryz.prog 109 #[v, .func (.func 74) #[] #[]] w fun e w' => e = .returned (.tuple #[]) ∧ ∃ M, M.Perm L ∧ SrtC M ∧ RC w' v M ∧ Turns (fun j => v.ownBlock = some j) w w' := by
  rcases h.2 with ⟨rfl, h0⟩ | ⟨g, cap, cur, rfl, -, hg, hn, hm, hsz, ht⟩
  · have h1 : L = [] := List.eq_nil_of_length_eq_zero h0
    subst h1
    have hcon := AnyF.slices_SortFunc_none sortLayC none 0 (.func (.func 74) #[] #[]) w
    change Calls Tryz.prog 109 _ _ _ at hcon
    refine hcon.mono ?_
    rintro e w' ⟨rfl, rfl⟩
    exact ⟨rfl, [], .refl _, List.Pairwise.nil, Rw.nil _ _ _ _, Turns.of_below (Below.refl _ _)⟩
  have hI : Inhabited ((Int × Int)) := ⟨(0, 0)⟩
  have eg : ∀ args w, (callFunc 74 args).run Tryz.prog w = .ok (.enter 74 args) w := enters_of Tryz.func74 (by kernel_rfl) rfl
  have hcon := AnyQ.slices_SortFunc sortLayC 2 Tryz.isAgg47 Tryz.sizeOf47 cC2 C_len one_C cfC swo_C 74 #[] g 0 cap L.toArray w eg (fun _ _ _ _ x y => (cmp74 x y _).mono (fun e w' ⟨h1, n, os, h2⟩ => ⟨h1, n, os, h2⟩)) (holds_C hg hn hsz ht) (Array.getElem?_eq_some_iff.1 hg).1 (by simp; omega)
  change Calls Tryz.prog 109 _ _ _ at hcon
  rw [List.size_toArray] at hcon
  refine hcon.mono ?_
  rintro e w' ⟨rfl, d', n, os, hpm, hso, rfl⟩
  obtain ⟨z1, -, z3⟩ := hpm
  have zs : d'.size = L.length := by rw [z1]; simp
  have hp' : d'.toList.Perm L := by
    have e1 : d'.extract 0 L.length = d' := by rw [← zs]; simp
    have e2 : L.toArray.extract 0 L.length = L.toArray := by simp
    rwa [e1, e2] at z3
  have hlL : d'.toList.length = L.length := hp'.length_eq
  have hss : SrtC d'.toList := by
    unfold SrtC
    rw [List.pairwise_iff_getElem]
    intro i j hi hj hij
    have := hso i j (Nat.zero_le _) hij (by omega)
    rw [lt_C] at this
    rw [getElem!_pos _ j (by simpa using hj), getElem!_pos _ i (by simpa using hi)] at this
    simpa using this
  obtain ⟨r1, r2⟩ := after_C (L := d'.toList) (n := n) (os := os) hg (by omega) hm hsz
  have hd : d'.toList.toArray = d' := by simp
  rw [hd, hlL] at r1
  rw [hd] at r2
  exact ⟨rfl, d'.toList, hp', hss, r1, r2.mono (fun j _ e => by rw [e]; rfl)⟩
end Go.Proofs.YthiafmlgialbnaaGreatDoor
