/-
  Free of an index, small or great: what the document's says.
-/
import Derived.Test.YtkodeopkgmichaaFreeG
import Derived.Test.YtkodeopkgmichaaApPure
namespace Go.Proofs.Ytkodeopkgmichaa
open Go.RowKit Go.Shelf
set_option linter.unusedVariables false
set_option linter.unusedSimpArgs false
theorem free_st {p fm bm m : Nat} {l : List Bd} {i x y a b : Int} {w : World} (h : St w p fm bm m l) :
    Calls Try.prog 22 #[ptr p, rct x y a b, .int .i64 i] w fun e w' => e = .returned (.bool (freeR l i x y a b)) ∧ Below w.heap.size w w' := by
  by_cases hm : may x y a b = true
  · by_cases hs : sm a b = true
    · rw [free_one h.fine i x y a b hm]
      exact free_small p fm bm l.length m (gOf l) (fOf l) x y a b i w h.ix hm hs
    · have e : freeR l i x y a b = (mids l x y a b).all (fun j => decide (j = i)) := by
        rw [mids_free]
        unfold freeR hits
        rw [hm, Bool.true_and]
      rw [e]
      exact free_great p fm bm m l (fOf l) x y a b i w h.ix h.fine.sorted (fun t ht => (h.fine.all t ht).1) hm (by simpa using hs)
  · have hm' : may x y a b = false := by simpa using hm
    rw [show freeR l i x y a b = false by simp [freeR, hm']]
    exact free_no p fm x y a b i w h.ix.c0 hm'
/-- The code of Put, by the document's words. -/
theorem putC_ref {l : List Bd} (h : Fine l) (i x y a b : Int) : putC l i x y a b = if may x y a b = false ∨ sm a b = false then 1 else if (gOf l i).isSome then 8 else if 256 ≤ l.length then 2 else if l.any (fun t => mtB t.r.x t.r.y t.r.a t.r.b x y a b) then 6 else 0 := by
  unfold putC
  by_cases h1 : may x y a b = false ∨ sm a b = false
  · rw [if_pos h1, if_pos h1]
  · rw [if_neg h1, if_neg h1]
    cases hg : gOf l i with
    | some r => rfl
    | none =>
      simp only [Option.isSome_none, Bool.false_eq_true, if_false]
      by_cases h2 : 256 ≤ l.length
      · rw [if_pos h2, if_pos h2]
      · rw [if_neg h2, if_neg h2]
        have hm : may x y a b = true := by
          cases e : may x y a b
          · exact absurd (.inl e) h1
          · rfl
        rw [← free_one h i x y a b hm]
        have e : freeR l i x y a b = !(l.any (fun t => mtB t.r.x t.r.y t.r.a t.r.b x y a b)) := by
          unfold freeR
          rw [hm, Bool.true_and]
          congr 1
          rw [Bool.eq_iff_iff, List.any_eq_true, List.any_eq_true]
          constructor
          · rintro ⟨t, ht, hh⟩
            simp only [hits, Bool.and_eq_true] at hh
            exact ⟨t, ht, hh.2⟩
          · rintro ⟨t, ht, hh⟩
            exact ⟨t, ht, by simp [hits, hh, gOf_none.1 hg t ht]⟩
        rw [e]
        cases l.any (fun t => mtB t.r.x t.r.y t.r.a t.r.b x y a b) <;> rfl
/-- The code of Move, by the document's words. -/
theorem moveC_ref {l : List Bd} (h : Fine l) {i x y : Int} {r : Rc} (hg : gOf l i = some r) : moveC l i x y = if may x y r.a r.b = false then 1 else if freeR l i x y r.a r.b then 0 else 6 := by
  unfold moveC
  rw [hg]
  by_cases hm : may x y r.a r.b = false
  · simp [hm]
  · have hm' : may x y r.a r.b = true := by simpa using hm
    rw [free_one h i x y r.a r.b hm']
end Go.Proofs.Ytkodeopkgmichaa
