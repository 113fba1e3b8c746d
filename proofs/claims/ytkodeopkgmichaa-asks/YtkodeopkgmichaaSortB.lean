/-
  The units of an index by rising numbers.
-/
import Derived.Shelf.SlSortCmp.WholeK
import Derived.Test.YtkodeopkgmichaaSortLay
import Derived.Test.YtkodeopkgmichaaSortA
namespace Go.Proofs.Ytkodeopkgmichaa
open Go.RowKit Go.Shelf Go.Sort Go.Lib
set_option linter.unusedVariables false
set_option linter.unusedSimpArgs false
theorem nan65 (x : Int) (w : World) : Calls Try.prog 65 #[.int .i64 x] w fun e w' => e = .returned (.bool false) ∧ w' = w := by
  go_enter Try.func65, Try.ntmps65
  go_wp2
  go_ret
  exact ⟨rfl, rfl⟩
set_option maxHeartbeats 400000 in
theorem cmp54 (x y : Int) (w : World) : Calls Try.prog 54 #[.int .i64 x, .int .i64 y] w fun e w' => e = .returned (.int .i64 (Lib.compareInt x y)) ∧ w' = w := by
  by_cases h1 : x < y
  · rw [show Lib.compareInt x y = -1 by simp [Lib.compareInt, h1]]
    go_enter Try.func54, Try.ntmps54
    go_wp2_with (go_at_call 65; refine (nan65 _ _).mono ?_; rintro e w' ⟨rfl, rfl⟩)
    go_ret
    exact ⟨rfl, rfl⟩
  · by_cases h2 : y < x
    · rw [show Lib.compareInt x y = 1 by simp [Lib.compareInt, h1, h2]]
      go_enter Try.func54, Try.ntmps54
      go_wp2_with (go_at_call 65; refine (nan65 _ _).mono ?_; rintro e w' ⟨rfl, rfl⟩)
      go_ret
      exact ⟨rfl, rfl⟩
    · rw [show Lib.compareInt x y = 0 by simp [Lib.compareInt, h1, h2]]
      go_enter Try.func54, Try.ntmps54
      go_wp2_with (go_at_call 65; refine (nan65 _ _).mono ?_; rintro e w' ⟨rfl, rfl⟩)
      go_ret
      exact ⟨rfl, rfl⟩
set_option maxHeartbeats 1000000 in
theorem clo53 (x y : Bd) (W : World) : Calls Try.prog 53 #[x.v, y.v] W fun e w' => e = .returned (.int .i64 (Lib.compareInt x.id y.id)) ∧ ∃ q os', w' = grow (W.drewN q) os' := by
  have hcon := fun W' => cmp54 x.id y.id W'
  generalize Lib.compareInt x.id y.id = r at hcon ⊢
  go_enter Try.func53, Try.ntmps53
  go_wp2_with (go_at_call 54; refine (hcon _).mono ?_; rintro e w' ⟨rfl, rfl⟩)
  go_ret
  exact ⟨rfl, 0, _, by rw [alloc_eq_grow, alloc_eq_grow, grow_grow]; rfl⟩
theorem ltU (x y : Bd) : ltOf (fun x y : Bd => Lib.compareInt x.id y.id) x y = decide (x.id < y.id) := by
  unfold ltOf Lib.compareInt
  by_cases h1 : x.id < y.id
  · simp [h1]
  · by_cases h2 : y.id < x.id <;> simp [h1, h2]
theorem swoU : SWO (ltOf fun x y : Bd => Lib.compareInt x.id y.id) where
  irrefl x := by rw [ltU]; simp
  trans x y z h1 h2 := by rw [ltU] at *; simp at *; omega
  ntrans x y z h1 h2 := by rw [ltU] at *; simp at *; omega
/-- The sort: the row is the list by rising numbers. -/
theorem sort52 {l L : List Bd} {v : Value} {w : World} (hs : Sorted l) (hlen : l.length ≤ 256) (h : Bds w v L) (hp : L.Perm l) {k : Nat} (hk : v.ownBlock = some k) :
    Calls Try.prog 52 #[v, .func (.func 53) #[] #[]] w fun e w' => e = .returned (.tuple #[]) ∧ Bds w' v l ∧ Turns (fun j => j = k) w w' := by
  have hib : Inhabited Bd := ⟨⟨0, ⟨0, 0, 0, 0⟩⟩⟩
  rcases h.2 with ⟨rfl, _⟩ | ⟨g, cap, cur, rfl, -, hg, hn, hm, hsz, ht⟩
  · cases hk
  have hkg : g = k := by simpa [Value.ownBlock] using hk
  subst hkg
  have eg : ∀ args w, (callFunc 53 args).run Try.prog w = .ok (.enter 53 args) w := enters_of Try.func53 (by kernel_rfl) rfl
  have hlL : L.length = l.length := hp.length_eq
  have hcon := AnyQ.slices_SortFunc sortSt 5 Try.isAgg83 Try.sizeOf83 Bd.cs Bd.cs_len5 (fun x => one_bd) (fun x y => Lib.compareInt x.id y.id) swoU 53 #[] g 0 cap L.toArray w eg (fun _ _ _ _ x y => clo53 x y _) (holds_of hg hn hsz ht) (Array.getElem?_eq_some_iff.1 hg).1 (by simp; omega)
  change Calls Try.prog 52 _ _ _ at hcon
  rw [List.size_toArray] at hcon
  refine hcon.mono ?_
  rintro e w' ⟨rfl, d', n, os, hpm, hso, rfl⟩
  obtain ⟨z1, -, z3⟩ := hpm
  have zs : d'.size = L.length := by rw [z1]; simp
  have hp' : d'.toList.Perm L := by
    have e1 : d'.extract 0 L.length = d' := by rw [← zs]; simp
    have e2 : L.toArray.extract 0 L.length = L.toArray := by simp
    rwa [e1, e2] at z3
  have hl : d'.toList = l := sorted_is hs (hp'.trans hp) (fun i j hij hj => by
    have := hso i j (Nat.zero_le _) hij (by omega)
    rw [ltU] at this
    exact of_decide_eq_false this)
  have hd : d' = l.toArray := by rw [← hl]
  rw [hd, hlL]
  obtain ⟨r1, r2⟩ := row_after (L := l) (n := n) (os := os) hg (by omega) hm hsz
  exact ⟨rfl, r1, r2⟩
/-- All units of an index, by rising numbers, in a row of the call's own. -/
theorem inorder_is {p fm bm m : Nat} {l : List Bd} {w : World} (h : St w p fm bm m l) :
    Calls Try.prog 39 #[ptr p] w fun e w' => ∃ v k, e = .returned v ∧ v.ownBlock = some k ∧ w.heap.size ≤ k ∧ Bds w' v l ∧ Below w.heap.size w w' := by
  refine collect_is p fm bm m l (fOf l) w h.ix h.fine.sorted h.fine.len (fun t ht => (h.fine.all t ht).1) _ ?_
  rintro v L w' hb hp hB ⟨k, hk, hk'⟩
  refine (sort52 h.fine.sorted h.fine.len hb hp hk).mono ?_
  rintro e w'' ⟨rfl, h1, h2⟩
  exact ⟨rfl, v, k, rfl, hk, hk', h1, hB.trans (h2.below (fun j e => by omega) hB.size)⟩
end Go.Proofs.Ytkodeopkgmichaa
