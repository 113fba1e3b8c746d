/-
  A row of units, as the library's sort has it.
-/
import Derived.Shelf.GgSortFunc.InsertionK
import Derived.Test.YtkodeopkgmichaaState
import Derived.Test.YtkodeopkgmichaaInOrder
namespace Go.Proofs.Ytkodeopkgmichaa
open Go.RowKit Go.Shelf Go.Sort
set_option linter.unusedVariables false
set_option linter.unusedSimpArgs false
set_option linter.unusedSectionVars false
variable [Inhabited Bd]
theorem Bd.cs_len5 (t : Bd) : t.cs.length = 5 := rfl
theorem flat_get (L : List Bd) (j : Nat) (h : j < L.length * 5) : (flatK Bd.cs 5 L.toArray)[j]! = (L.flatMap Bd.cs)[j]! ∧ (L.flatMap Bd.cs)[j]? = some (L.flatMap Bd.cs)[j]! := by
  have hj : j < (L.flatMap Bd.cs).length := by rw [cs_len]; exact h
  have h2 : (L.flatMap Bd.cs)[j]? = some (L.flatMap Bd.cs)[j]! := by rw [getElem!_pos _ j hj]; exact List.getElem?_eq_getElem hj
  refine ⟨?_, h2⟩
  rw [get_flatK _ _ _ j (by simpa using h)]
  have hq : j / 5 < L.length := by omega
  have h3 := cs_get L (j / 5) L[j / 5] (j % 5) (List.getElem?_eq_getElem hq) (by omega)
  rw [show j / 5 * 5 + j % 5 = j by omega, h2] at h3
  have h4 : L.toArray[j / 5]! = L[j / 5] := by rw [getElem!_pos _ _ (by simpa using hq)]; simp
  rw [h4]
  have h5 : j % 5 < L[j / 5].cs.length := by rw [Bd.cs_len5]; omega
  rw [List.getElem?_eq_getElem h5] at h3
  rw [getElem!_pos L[j / 5].cs (j % 5) h5]
  exact (Option.some.inj h3).symm
theorem holds_of {w : World} {g cap : Nat} {cur : Array Value} {L : List Bd} (hg : w.heap[g]? = some (.cells cur 83 (0, 0))) (hn : L.length ≤ cap) (hs : cur.size = cap * 5) (ht : cur.toList.take (L.length * 5) = L.flatMap Bd.cs) : HoldsK Bd.cs 5 w g 0 L.toArray := by
  intro j hj
  have hj' : j < L.length * 5 := by simpa using hj
  obtain ⟨h1, h2⟩ := flat_get L j hj'
  constructor
  · rw [Nat.zero_add, cell_of_row w g j _ _ _ hg, h1]
    have : cur[j]? = (L.flatMap Bd.cs)[j]? := by rw [← ht, List.getElem?_take, if_pos hj', Array.getElem?_toList]
    rw [this, h2]
    rfl
  · have hlt : j < cur.size := by omega
    simp [World.frozen?, hg]
theorem row_after {w : World} {g cap : Nat} {cur : Array Value} {L : List Bd} {n : Nat} {os : Array Obj} (hg : w.heap[g]? = some (.cells cur 83 (0, 0))) (hn : L.length ≤ cap) (hm : cap ≤ maxLen) (hs : cur.size = cap * 5) :
    Bds (sortWorldK Bd.cs 5 w g 0 n L.toArray os) (.slice (some ⟨g, 0, none⟩) L.length cap) L ∧ Turns (fun k => k = g) w (sortWorldK Bd.cs 5 w g 0 n L.toArray os) := by
  have hlt : g < w.heap.size := (Array.getElem?_eq_some_iff.1 hg).1
  have hh : ∀ k, k < w.heap.size → (sortWorldK Bd.cs 5 w g 0 n L.toArray os).heap[k]? = (w.heap.modify g (onCells (putCells id 0 (flatK Bd.cs 5 L.toArray))))[k]? := fun k hk => by
    unfold sortWorldK grow putRowK putRow mapBlock Sort.ahead
    exact Array.getElem?_append_left (by simpa using hk)
  have hg' : (sortWorldK Bd.cs 5 w g 0 n L.toArray os).heap[g]? = some (.cells (putCells id 0 (flatK Bd.cs 5 L.toArray) cur) 83 (0, 0)) := by
    rw [hh g hlt, Array.getElem?_modify, if_pos rfl, hg]
    rfl
  constructor
  · refine ⟨cs_len L, .inr ⟨g, cap, _, rfl, Nat.zero_le _, hg', hn, hm, by simp [putCells, hs], ?_⟩⟩
    refine List.ext_getElem? (fun j => ?_)
    rw [List.getElem?_take]
    by_cases hj : j < L.length * 5
    · rw [if_pos hj, Array.getElem?_toList]
      obtain ⟨h1, h2⟩ := flat_get L j hj
      have hc : j < cur.size := by omega
      simp only [putCells, Array.getElem?_mapIdx, Array.getElem?_eq_getElem hc, Option.map_some]
      rw [if_pos ⟨by omega, by simpa using hj⟩, Nat.sub_zero, h1, h2]
      rfl
    · rw [if_neg hj, List.getElem?_eq_none (by rw [cs_len]; omega)]
  · refine ⟨rfl, rfl, rfl, ?_, fun k hk hne => ?_⟩
    · show w.heap.size ≤ (grow _ _).heap.size
      unfold grow putRowK putRow mapBlock Sort.ahead
      simp
    · rw [hh k hk, Array.getElem?_modify, if_neg (fun e => hne e.symm)]
/-- Sorted, and the same units: the same row. -/
theorem sorted_is {l : List Bd} (hs : Sorted l) {d' : Array Bd} (hp : d'.toList.Perm l) (ho : ∀ i j, i < j → j < d'.size → ¬ (d'[j]!).id < (d'[i]!).id) : d'.toList = l := by
  refine hp.eq_of_pairwise (le := fun s t => s.id ≤ t.id) (fun a b ha hb h1 h2 => ?_) ?_ (hs.imp (fun h => Int.le_of_lt h))
  · have h3 := gOf_mem hs (hp.mem_iff.1 ha)
    have h4 := gOf_mem hs hb
    have e : a.id = b.id := by omega
    rw [e, h4] at h3
    cases a; cases b
    simp at e h3
    rw [e, h3]
  · rw [List.pairwise_iff_getElem]
    intro i j hi hj hij
    have := ho i j hij (by simpa using hj)
    rw [getElem!_pos _ j (by simpa using hj), getElem!_pos _ i (by simpa using hi)] at this
    simp
    omega
end Go.Proofs.Ytkodeopkgmichaa
