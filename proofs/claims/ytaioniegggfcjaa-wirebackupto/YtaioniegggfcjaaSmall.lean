/-
  What the bound on all that came in says of bytes and of items.
-/
import Derived.Test.YtaioniegggfcjaaItems
import Derived.Test.YtaioniegggfcjaaWritesWalk
namespace Go.Proofs.Ytaioniegggfcjaa
open Go.ChangeShapes Go.WideShapes Go.ChangeAt Go.RowKit Go.Joins Go.Deep
set_option linter.unusedVariables false
theorem bulk_pos {H : Type} (d : DataW H) : 1 ≤ Rows.uptoBulk d := by
  cases d with
  | lit l => cases l <;> simp [Rows.uptoBulk]
  | _ => simp [Rows.uptoBulk]
theorem bulk_len {H : Type} (l : List (DataW H)) : l.length ≤ Rows.uptoBulkAll l := by
  induction l with
  | nil => simp [Rows.uptoBulkAll]
  | cons x r ih =>
    have := bulk_pos x
    simp only [Rows.uptoBulkAll, List.length_cons]
    omega
theorem bulk_snoc {H : Type} (l : List (DataW H)) (x : DataW H) : Rows.uptoBulkAll (l ++ [x]) = Rows.uptoBulkAll l + Rows.uptoBulk x := by
  induction l with
  | nil => simp [Rows.uptoBulkAll]
  | cons y r ih => simp only [List.cons_append, Rows.uptoBulkAll, ih]; omega
theorem bulk_slice {H : Type} (elems spare : List (DataW H)) : Rows.uptoBulk (.slice elems spare) = Rows.uptoBulkAll elems + Rows.uptoBulkAll spare + 1 := by simp only [Rows.uptoBulk]
theorem bulk_four {H : Type} (y0 y1 y2 y3 : DataW H) : Rows.uptoBulk y2 + 4 ≤ Rows.uptoBulk (.agg [y0, y1, y2, y3]) := by
  have := bulk_pos y0
  have := bulk_pos y1
  have := bulk_pos y3
  simp only [Rows.uptoBulk, Rows.uptoBulkAll]
  omega
theorem bytes_small {H : Type} {enc : TypeId × Value → H} {W : World} {v : Value} {d : DataW H} {p : List MemPlace} (h : DataW.Trod enc Try.prog W 0 (fun _ => true) true 22 v d p)
    (hv : ∃ a n c, v = .slice a n c) (hb : Rows.uptoBulk d ≤ 1048576) : ∃ l, Bys W v l ∧ l.length ≤ 1048576 := by
  obtain ⟨fuel, hf⟩ := h
  obtain ⟨a, n, c, rfl⟩ := hv
  have hf' : DataW.trod enc Try.prog W 0 (fun _ => true) true fuel 22 [.slice a n c] = some (d, p) := hf
  have hle : ∀ elems spare, d = .slice elems spare → elems.length ≤ 1048576 := fun elems spare he => by
    rw [he, bulk_slice] at hb
    have := bulk_len elems
    omega
  obtain ⟨l, hl, hlen⟩ := opened_trod hf' (fun elems spare he => by have := hle elems spare he; omega)
  refine ⟨l, hl, ?_⟩
  rcases DataW.trod_slice Try.underlying22 hf' with ⟨hc, hn⟩ | ⟨a', len, cap, elems, rest, k, _, hc, hn, _⟩
  · simp only [List.cons.injEq, and_true] at hc
    obtain ⟨_, _, a', cap', he, _⟩ := hl
    rw [hc] at he
    injection he with r1 r2 r3
    omega
  · have h1 := congrArg Prod.fst hn
    rw [hlen _ _ h1]
    exact hle _ _ h1
theorem items_small {H : Type} {W : World} {d : DataW H} {L : List It} (hb : Rows.uptoBulk d ≤ 1048576)
    (h : (d = .nil ∧ L = []) ∨ ∃ (D : Nat → DataW H) (spare : List (DataW H)), d = .slice ((List.range L.length).map D) spare ∧ ∀ i t, L[i]? = some t → Says W (D i) t) :
    (∀ (i : Nat) (t : It), L[i]? = some t → Bys W t.s t.b) ∧ tot L ≤ 10485760 := by
  rcases h with ⟨_, rfl⟩ | ⟨D, spare, rfl, hS⟩
  · exact ⟨fun i t h => by simp at h, by simp [tot]⟩
  · rw [bulk_slice] at hb
    have hmem : ∀ i, i < L.length → Rows.uptoBulk (D i) ≤ Rows.uptoBulkAll ((List.range L.length).map D) := by
      have : ∀ (n i : Nat), i < n → Rows.uptoBulk (D i) ≤ Rows.uptoBulkAll ((List.range n).map D) := by
        intro n
        induction n with
        | zero => intro i hi; omega
        | succ n ih =>
          intro i hi
          rw [List.range_succ, List.map_append, List.map_singleton, bulk_snoc]
          rcases Nat.lt_or_ge i n with h | h
          · have := ih i h; omega
          · obtain rfl : i = n := by omega
            omega
      exact this L.length
    have one : ∀ (i : Nat) (t : It), L[i]? = some t → Bys W t.s t.b ∧ t.b.length + 4 ≤ Rows.uptoBulk (D i) := by
      intro i t ht
      obtain ⟨y0, y1, y2, y3, he, hs⟩ := hS i t ht
      have hi := (List.getElem?_eq_some_iff.1 ht).1
      have h1 := hmem i hi
      have h2 := bulk_four y0 y1 y2 y3
      rw [← he] at h2
      obtain ⟨h3, h4⟩ := hs (fun elems spare hy => by
        rw [hy, bulk_slice] at h2
        have := bulk_len elems
        omega)
      refine ⟨h3, ?_⟩
      rcases h4 with ⟨_, h5⟩ | ⟨elems, spare', hy, h5⟩
      · rw [h5]
        have := bulk_pos y2
        simp only [List.length_nil]
        omega
      · rw [hy, bulk_slice] at h2
        have := bulk_len elems
        omega
    refine ⟨fun i t ht => (one i t ht).1, ?_⟩
    have : ∀ k, k ≤ L.length → tot (L.take k) ≤ 10 * Rows.uptoBulkAll ((List.range k).map D) := by
      intro k
      induction k with
      | zero => intro _; simp [tot]
      | succ k ih =>
        intro hk
        obtain ⟨t, ht⟩ : ∃ t, L[k]? = some t := ⟨_, List.getElem?_eq_getElem (by omega)⟩
        have h1 := ih (by omega)
        have h2 := (tot_part L k t ht).2
        have h3 := (one k t ht).2
        rw [h2, tot_append, List.range_succ, List.map_append, List.map_singleton, bulk_snoc]
        simp only [tot]
        omega
    have h := this L.length (Nat.le_refl _)
    rw [List.take_length] at h
    omega
end Go.Proofs.Ytaioniegggfcjaa
