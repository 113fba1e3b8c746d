/-
  Rows of pairs (a unit, a place) in memory of the call's own; the sort of such a row.
-/
import Derived.Test.YtmkoleioipklpaaNum
import Derived.Test.YtmkoleioipklpaaSortE
import Derived.Test.YtmkoleioipklpaaPrv
import Derived.Shelf.GgSortFunc.InsertionK
import Derived.Shelf.SlSortCmp.WholeK
import Derived.Shelf.SlSortCmp.NoneTotal
namespace Go.Proofs.Ytmkoleioipklpaa
open Go.RowKit Go.Shelf Go.Sort Go.Lib
set_option linter.unusedVariables false
set_option linter.unusedSimpArgs false
section
variable {α : Type} {enc : α → List Value} (hk : ∀ a, (enc a).length = 2) [hI : Inhabited α]
include hk
theorem get_K (L : List α) (j : Nat) (h : j < L.length * 2) : (flatK enc 2 L.toArray)[j]! = (L.flatMap enc)[j]! ∧ (L.flatMap enc)[j]? = some (L.flatMap enc)[j]! := by
  have hj : j < (L.flatMap enc).length := by rw [Rw.len hk]; exact h
  have h2 : (L.flatMap enc)[j]? = some (L.flatMap enc)[j]! := by rw [getElem!_pos _ j hj]; exact List.getElem?_eq_getElem hj
  refine ⟨?_, h2⟩
  rw [get_flatK _ _ _ j (by simpa using h)]
  have hq : j / 2 < L.length := by omega
  have h3 := rw_get hk L (j / 2) L[j / 2] (j % 2) (List.getElem?_eq_getElem hq) (by omega)
  rw [show j / 2 * 2 + j % 2 = j by omega, h2] at h3
  have h4 : L.toArray[j / 2]! = L[j / 2] := by rw [getElem!_pos _ _ (by simpa using hq)]; simp
  rw [h4]
  have h5 : j % 2 < (enc L[j / 2]).length := by rw [hk]; omega
  rw [List.getElem?_eq_getElem h5] at h3
  rw [getElem!_pos (enc L[j / 2]) (j % 2) h5]
  exact (Option.some.inj h3).symm
theorem holds_K {w : World} {g cap : Nat} {cur : Array Value} {L : List α} (hg : w.heap[g]? = some (.cells cur 40 (0, 0))) (hn : L.length ≤ cap) (hs : cur.size = cap * 2) (ht : cur.toList.take (L.length * 2) = L.flatMap enc) : HoldsK enc 2 w g 0 L.toArray := by
  intro j hj
  have hj' : j < L.length * 2 := by simpa using hj
  obtain ⟨h1, h2⟩ := get_K hk L j hj'
  constructor
  · rw [Nat.zero_add, cell_of_row w g j _ _ _ hg, h1]
    have : cur[j]? = (L.flatMap enc)[j]? := by rw [← ht, List.getElem?_take, if_pos hj', Array.getElem?_toList]
    rw [this, h2]
    rfl
  · have hlt : j < cur.size := by omega
    simp [World.frozen?, hg]
theorem after_K {w : World} {g cap : Nat} {cur : Array Value} {L : List α} {n : Nat} {os : Array Obj} (hg : w.heap[g]? = some (.cells cur 40 (0, 0))) (hn : L.length ≤ cap) (hm : cap ≤ maxLen) (hs : cur.size = cap * 2) :
    Rw 40 2 enc (sortWorldK enc 2 w g 0 n L.toArray os) (.slice (some ⟨g, 0, none⟩) L.length cap) L ∧ Turns (fun k => k = g) w (sortWorldK enc 2 w g 0 n L.toArray os) := by
  have hlt : g < w.heap.size := (Array.getElem?_eq_some_iff.1 hg).1
  have hh : ∀ k, k < w.heap.size → (sortWorldK enc 2 w g 0 n L.toArray os).heap[k]? = (w.heap.modify g (onCells (putCells id 0 (flatK enc 2 L.toArray))))[k]? := fun k hk => by
    unfold sortWorldK grow putRowK putRow mapBlock Sort.ahead
    exact Array.getElem?_append_left (by simpa using hk)
  have hg' : (sortWorldK enc 2 w g 0 n L.toArray os).heap[g]? = some (.cells (putCells id 0 (flatK enc 2 L.toArray) cur) 40 (0, 0)) := by
    rw [hh g hlt, Array.getElem?_modify, if_pos rfl, hg]
    rfl
  constructor
  · refine ⟨Rw.len hk L, .inr ⟨g, cap, _, rfl, Nat.zero_le _, hg', hn, hm, by simp [putCells, hs], ?_⟩⟩
    refine List.ext_getElem? (fun j => ?_)
    rw [List.getElem?_take]
    by_cases hj : j < L.length * 2
    · rw [if_pos hj, Array.getElem?_toList]
      obtain ⟨h1, h2⟩ := get_K hk L j hj
      have hc : j < cur.size := by omega
      simp only [putCells, Array.getElem?_mapIdx, Array.getElem?_eq_getElem hc, Option.map_some]
      rw [if_pos ⟨by omega, by simpa using hj⟩, Nat.sub_zero, h1, h2]
      rfl
    · rw [if_neg hj, List.getElem?_eq_none (by rw [Rw.len hk]; omega)]
  · refine ⟨rfl, rfl, rfl, ?_, fun k hk hne => ?_⟩
    · show w.heap.size ≤ (grow _ _).heap.size
      unfold grow putRowK putRow mapBlock Sort.ahead
      simp
    · rw [hh k hk, Array.getElem?_modify, if_neg (fun e => hne e.symm)]
end
/-- Pairs of numbers below n. -/
def fpr {n : Nat} (x : Fin n × Fin n) : Nat × Nat := (x.1.val, x.2.val)
def fpC {n : Nat} (x : Fin n × Fin n) : List Value := prCs (fpr x)
theorem fpC_len {n : Nat} (x : Fin n × Fin n) : (fpC x).length = 2 := rfl
theorem fpr_inj {n : Nat} {x y : Fin n × Fin n} (h : fpr x = fpr y) : x = y := by
  obtain ⟨⟨a, _⟩, ⟨b, _⟩⟩ := x
  obtain ⟨⟨c, _⟩, ⟨d, _⟩⟩ := y
  simp [fpr] at h
  obtain ⟨rfl, rfl⟩ := h
  rfl
theorem fins_of {n : Nat} : ∀ {L : List (Nat × Nat)}, (∀ q ∈ L, q.1 < n ∧ q.2 < n) → ∃ M : List (Fin n × Fin n), M.map fpr = L
  | [], _ => ⟨[], rfl⟩
  | q :: L, h => by
    obtain ⟨M, hM⟩ := fins_of (L := L) (fun x hx => h x (List.mem_cons_of_mem _ hx))
    have hq := h q List.mem_cons_self
    exact ⟨(⟨q.1, hq.1⟩, ⟨q.2, hq.2⟩) :: M, by rw [List.map_cons, hM]; rfl⟩
theorem flat_fpr {n : Nat} (M : List (Fin n × Fin n)) : (M.map fpr).flatMap prCs = M.flatMap fpC := by
  rw [List.flatMap_map]; rfl
/-- Sorted by an order: none comes behind one that it comes ahead of. -/
def SrtL (lt : Nat × Nat → Nat × Nat → Prop) (l : List (Nat × Nat)) : Prop := l.Pairwise (fun p q => ¬ lt q p)
/-- The sort of a row of pairs below n, by a function that tells cf of them. -/
theorem sort_P {n : Nat} (cf : Fin n × Fin n → Fin n × Fin n → Int) (lt : Nat × Nat → Nat × Nat → Prop) (hlt : ∀ x y, cf x y < 0 ↔ lt (fpr x) (fpr y)) (hO : SWO (ltOf cf)) (f : FuncId) (cb : Array Value) {L : List (Nat × Nat)} {v : Value} {w : World}
    (eg : ∀ args w, (callFunc f args).run Try.prog w = .ok (.enter f args) w) (hin : ∀ q ∈ L, q.1 < n ∧ q.2 < n) (hlen : L.length ≤ 1000000)
    (hcmp : ∀ w', (∀ g, v.ownBlock = some g → Turns (fun j => j = g) w w') → (L ≠ []) → ∀ x y : Fin n × Fin n, Calls Try.prog f (#[prV (fpr x), prV (fpr y)] ++ cb) w' fun e w'' => e = .returned (.int .i64 (cf x y)) ∧ GrD w' w'') (h : Pn w v L) :
    Calls Try.prog 18 #[v, .func (.func f) #[] cb] w fun e w' => e = .returned (.tuple #[]) ∧ ∃ M, M.Perm L ∧ SrtL lt M ∧ Pn w' v M ∧ Turns (fun j => v.ownBlock = some j) w w' := by
  by_cases h0 : L = []
  · subst h0
    have hs : ∃ a cap, v = .slice a 0 cap := by
      obtain ⟨a, cap, e, -⟩ := Rw.form prCs_len h
      exact ⟨a, cap, e⟩
    obtain ⟨a, cap, rfl⟩ := hs
    have hcon := AnyF.slices_SortFunc_none sortLayE a cap (.func (.func f) #[] cb) w
    change Calls Try.prog 18 _ _ _ at hcon
    refine hcon.mono ?_
    rintro e w' ⟨rfl, rfl⟩
    exact ⟨rfl, [], .refl _, List.Pairwise.nil, h, Turns.of_below (Below.refl _ _)⟩
  obtain ⟨q0, hq0⟩ : ∃ q, q ∈ L := List.exists_mem_of_ne_nil L h0
  have hI : Inhabited (Fin n × Fin n) := ⟨(⟨q0.1, (hin q0 hq0).1⟩, ⟨q0.2, (hin q0 hq0).2⟩)⟩
  obtain ⟨M, rfl⟩ := fins_of hin
  rcases h.2 with ⟨rfl, h1⟩ | ⟨g, cap, cur, rfl, -, hg, hn, hm, hsz, ht⟩
  · exact absurd (List.eq_nil_of_length_eq_zero h1) h0
  rw [List.length_map] at hlen hn ht ⊢
  rw [flat_fpr] at ht
  have hgl : g < w.heap.size := (Array.getElem?_eq_some_iff.1 hg).1
  have hcon := AnyQ.slices_SortFunc sortLayE 2 Try.isAgg40 Try.sizeOf40 fpC fpC_len (fun x => prCs_one _) cf hO f cb g 0 cap M.toArray w eg (fun m os dk hdk x y => (hcmp _ (fun j hj => by
      cases hj
      have e : dk = dk.toList.toArray := by simp
      have := (after_K (enc := fpC) fpC_len (L := dk.toList) (n := m) (os := os) hg (by have e1 : dk.toList.length = M.length := (by simpa using hdk); omega) hm hsz).2
      rwa [← e] at this) h0 x y).mono (fun e w' ⟨h1, n, os, h2⟩ => ⟨h1, n, os, h2⟩)) (holds_K fpC_len hg hn hsz ht) hgl (by simp; omega)
  change Calls Try.prog 18 _ _ _ at hcon
  rw [List.size_toArray] at hcon
  refine hcon.mono ?_
  rintro e w' ⟨rfl, d', k, os, hpm, hso, rfl⟩
  obtain ⟨z1, -, z3⟩ := hpm
  have zs : d'.size = M.length := by rw [z1]; simp
  have hp' : d'.toList.Perm M := by
    have e1 : d'.extract 0 M.length = d' := by rw [← zs]; simp
    have e2 : M.toArray.extract 0 M.length = M.toArray := by simp
    rwa [e1, e2] at z3
  have hlL : d'.toList.length = M.length := hp'.length_eq
  have hss : SrtL lt (d'.toList.map fpr) := by
    unfold SrtL
    rw [List.pairwise_iff_getElem]
    intro i j hi hj hij
    rw [List.length_map] at hi hj
    have := hso i j (Nat.zero_le _) hij (by omega)
    rw [getElem!_pos _ j (by simpa using hj), getElem!_pos _ i (by simpa using hi)] at this
    intro hl
    rw [List.getElem_map, List.getElem_map] at hl
    have h2 := (hlt _ _).2 hl
    rw [Array.getElem_toList, Array.getElem_toList] at h2
    unfold ltOf at this
    simp at this
    omega
  obtain ⟨r1, r2⟩ := after_K (enc := fpC) fpC_len (L := d'.toList) (n := k) (os := os) hg (by omega) hm hsz
  have hd : d'.toList.toArray = d' := by simp
  rw [hd, hlL] at r1
  rw [hd] at r2
  refine ⟨rfl, d'.toList.map fpr, hp'.map _, hss, ?_, r2.mono (fun j _ e => by rw [e]; rfl)⟩
  unfold Pn Rw at *
  rw [flat_fpr, List.length_map, hlL]
  rw [hlL] at r1
  exact r1
end Go.Proofs.Ytmkoleioipklpaa
