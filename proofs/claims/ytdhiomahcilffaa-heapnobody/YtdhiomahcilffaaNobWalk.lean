/-
  phalanxlaw09.HeapNobody, walked.
-/
import Derived.Test.YtdhiomahcilffaaNob
namespace Go.Proofs.Ytdhiomahcilffaa
open Go.RowKit Go.Shelf
set_option linter.unusedVariables false
set_option linter.unusedSimpArgs false
attribute [local go_sem] Oper.semAt_some
set_option maxRecDepth 100000 in
set_option maxHeartbeats 8000000 in
theorem nobody_walk (x : Int) (w : World) : Calls Try.prog 6 #[.int .i64 x] w fun e w' => e = .returned (.bool true) ∧ Below w.heap.size w w' := by
  refine (callsIn_wide (n := 10)).1 ?_
  refine callsIn_of_wp_marks Try.func6 rfl trivial ?_ rfl
  simp only [Try.ntmps6, List.size_toArray, List.length_cons, List.length_nil, Nat.reduceAdd, Nat.reduceSub, Array.replicate_succ, Array.replicate_zero, List.push_toArray, List.append_toArray, List.nil_append, List.cons_append]
  gi_wp2_with fail
  refine ⟨trivial, ?_⟩
  refine (callsIn_wide.2 (awake_is _)).mono ?_
  rintro e W0 ⟨rfl, hb0⟩
  have H0 := hide hb0
  clear hb0
  gi_wp2_with fail
  refine wpIn_loop_rounds 3 ?_
  rw [roundsIn_succ]
  gi_wp2_with fail
  refine ⟨trivial, ?_⟩
  refine (callsIn_wide.2 (nob_new _)).mono ?_
  rintro e w1 ⟨rfl, hw1⟩
  have hw2 := hw1.symm
  subst hw2
  clear hw1
  have HNa : Hid (∀ wx, Below W0.heap.size W0 wx → Nob wx (.pointer none)) := hide fun wx hx => .inl rfl
  have HBs := hide (Below.refl W0.heap.size W0)
  gi_wp2_with fail
  refine ⟨trivial, ?_⟩
  refine (callsIn_wide.2 (nob_push _ _ _ (HNa.out _ (Below.refl _ _)))).mono ?_
  rintro e w2a ⟨rfl, hb2⟩
  have HB2a := hide hb2
  clear hb2
  gi_wp2_with fail
  refine ⟨trivial, ?_⟩
  refine (callsIn_wide.2 (nob_pop _ _ (HNa.out _ HB2a.out))).mono ?_
  rintro e w3 ⟨rfl, hw3⟩
  have hw4 := hw3.symm
  subst hw4
  clear hw3
  gi_wp2_with fail
  refine ⟨trivial, ?_⟩
  refine (callsIn_wide.2 (nob_top _ _ (HNa.out _ HB2a.out))).mono ?_
  rintro e w3 ⟨rfl, hw3⟩
  have hw4 := hw3.symm
  subst hw4
  clear hw3
  gi_wp2_with fail
  refine ⟨trivial, ?_⟩
  refine (callsIn_wide.2 (drain_int none _)).mono ?_
  rintro e wA ⟨rfl, rfl⟩
  gi_wp2_with fail
  have BVa : Below W0.heap.size W0 ((w2a.alloc (.cells #[.int .i64 0] 3)).alloc (.cells #[.pointer none] 41)) := bt HB2a.out (box2 _ _ _)
  have bVa : Boxed ((w2a.alloc (.cells #[.int .i64 0] 3)).alloc (.cells #[.pointer none] 41)) (w2a.heap.size + 1) 41 (.pointer none) := by
    have := Boxed.new (w2a.alloc (.cells #[.int .i64 0] 3)) 41 (.pointer none)
    simpa using this
  have nVa : Boxed ((w2a.alloc (.cells #[.int .i64 0] 3)).alloc (.cells #[.pointer none] 41)) w2a.heap.size 3 (.int .i64 0) := (Boxed.new w2a 3 (.int .i64 0)).alloc (.cells #[.pointer none] 41)
  obtain ⟨Va, hV⟩ : ∃ V, (w2a.alloc (.cells #[.int .i64 0] 3)).alloc (.cells #[.pointer none] 41) = V := ⟨_, rfl⟩
  rw [hV] at BVa bVa nVa ⊢
  clear hV
  refine wpIn_rangeFunc_ownH rfl (by omega) (gf := 29) (lb := #[.pointer (some ⟨w2a.heap.size + 1, 0, none⟩)]) rfl trivial (enters_of Try.func29 (by kernel_rfl) rfl)
    (nob_stops (10 - 1) (w2a.heap.size + 1) 0 _ Va bVa (HNa.out Va BVa)) kB_t (kB_b bVa.lt) (Below.refl _ _) (fun _ => rfl)
    (fun pre W => Below Va.heap.size Va W) (fun c pre W => False) (ownFrom_below (Nat.le_refl _) (Nat.le_refl _)) (fun c => ownFrom_pure _ _) (Below.refl _ _)
    (fun q a' W => True) (fun q a' _ X Y row hs hg hr => hs) ?assigna ?bodya ?donea ?stopa
  case assigna =>
    rintro l pre q W K hI hK
    gi_wp2
    exact hK _ _ (KeepsFrom.refl _ _) rfl hI trivial
  case bodya =>
    rintro l pre q a' W hl hr hI hA hlt
    exact absurd hlt (Nat.not_lt_zero _)
  case stopa =>
    rintro D c pre W hD hpre hIx hK
    exact hIx.elim
  case donea =>
    rintro Da xs Ua hDa hxs hUa hKa
    have BUa : Below W0.heap.size W0 Ua := bt BVa hUa
    have zna := (boxed_upto nVa hUa).cell
    have HLna := hide (nob_len _ Ua (HNa.out _ BUa))
    gi_wp2_with fail
    refine ⟨trivial, ?_⟩
    refine (callsIn_wide.2 HLna.out).mono ?_
    rintro e w3 ⟨rfl, hw3⟩
    have hw4 := hw3.symm
    subst hw4
    clear hw3
    gi_wp2_with fail
    rw [roundsIn_succ]
    gi_wp2_with fail
    refine ⟨trivial, ?_⟩
    refine (callsIn_wide.2 (nob_new _)).mono ?_
    rintro e w1 ⟨rfl, hw1⟩
    have hw2 := hw1.symm
    subst hw2
    clear hw1
    obtain ⟨Wb, hWb⟩ : ∃ Wb, Ua.alloc (.cells #[.nilFunc, .slice none 0 0, .int .i64 0, .bool false] 46) = Wb := ⟨_, rfl⟩
    have BWb : Below Ua.heap.size Ua Wb := by rw [← hWb]; exact box1 _ _
    have hNb : Wb.heap[Ua.heap.size]? = some (.cells #[.nilFunc, .slice none 0 0, .int .i64 0, .bool false] 46 (0, 0)) := by rw [← hWb]; exact heap_alloc_new Ua _
    have HNb : Hid (∀ wx, Below Wb.heap.size Wb wx → Nob wx (ptr Ua.heap.size)) := hide fun wx hx => .inr ⟨_, rfl, (hx.block _ (Array.getElem?_eq_some_iff.1 hNb).1).trans hNb⟩
    have hKDa : Wb.heap[Da]? = some (.deferred (some [])) := (BWb.block Da (Array.getElem?_eq_some_iff.1 hKa).1).trans hKa
    have HWb := hide hWb
    clear hWb
    gi_wp2_with (rw [HWb.out])
    gi_wp2_with fail
    refine ⟨trivial, ?_⟩
    refine (callsIn_wide.2 (nob_push _ _ _ (HNb.out _ (Below.refl _ _)))).mono ?_
    rintro e w2b ⟨rfl, hb2⟩
    have HB2b := hide hb2
    clear hb2
    gi_wp2_with fail
    refine ⟨trivial, ?_⟩
    refine (callsIn_wide.2 (nob_pop _ _ (HNb.out _ HB2b.out))).mono ?_
    rintro e w3 ⟨rfl, hw3⟩
    have hw4 := hw3.symm
    subst hw4
    clear hw3
    gi_wp2_with fail
    refine ⟨trivial, ?_⟩
    refine (callsIn_wide.2 (nob_top _ _ (HNb.out _ HB2b.out))).mono ?_
    rintro e w3 ⟨rfl, hw3⟩
    have hw4 := hw3.symm
    subst hw4
    clear hw3
    gi_wp2_with fail
    refine ⟨trivial, ?_⟩
    refine (callsIn_wide.2 (drain_int (some ⟨Ua.heap.size, 0, none⟩) _)).mono ?_
    rintro e wA ⟨rfl, rfl⟩
    gi_wp2_with fail
    have BVb : Below Wb.heap.size Wb ((w2b.alloc (.cells #[.int .i64 0] 3)).alloc (.cells #[ptr Ua.heap.size] 41)) := bt HB2b.out (box2 _ _ _)
    have bVb : Boxed ((w2b.alloc (.cells #[.int .i64 0] 3)).alloc (.cells #[ptr Ua.heap.size] 41)) (w2b.heap.size + 1) 41 (ptr Ua.heap.size) := by
      have := Boxed.new (w2b.alloc (.cells #[.int .i64 0] 3)) 41 (ptr Ua.heap.size)
      simpa using this
    have nVb : Boxed ((w2b.alloc (.cells #[.int .i64 0] 3)).alloc (.cells #[ptr Ua.heap.size] 41)) w2b.heap.size 3 (.int .i64 0) := (Boxed.new w2b 3 (.int .i64 0)).alloc (.cells #[ptr Ua.heap.size] 41)
    obtain ⟨Vb, hV⟩ : ∃ V, (w2b.alloc (.cells #[.int .i64 0] 3)).alloc (.cells #[ptr Ua.heap.size] 41) = V := ⟨_, rfl⟩
    rw [hV] at BVb bVb nVb ⊢
    clear hV
    refine wpIn_rangeFunc_ownH rfl (by omega) (gf := 29) (lb := #[.pointer (some ⟨w2b.heap.size + 1, 0, none⟩)]) rfl trivial (enters_of Try.func29 (by kernel_rfl) rfl)
      (nob_stops (10 - 1) (w2b.heap.size + 1) 0 _ Vb bVb (HNb.out Vb BVb)) kB_t (kB_b bVb.lt) (Below.refl _ _) (fun _ => rfl)
      (fun pre W => Below Vb.heap.size Vb W) (fun c pre W => False) (ownFrom_below (Nat.le_refl _) (Nat.le_refl _)) (fun c => ownFrom_pure _ _) (Below.refl _ _)
      (fun q a' W => True) (fun q a' _ X Y row hs hg hr => hs) ?assignb ?bodyb ?doneb ?stopb
    case assignb =>
      rintro l pre q W K hI hK
      gi_wp2
      exact hK _ _ (KeepsFrom.refl _ _) rfl hI trivial
    case bodyb =>
      rintro l pre q a' W hl hr hI hA hlt
      exact absurd hlt (Nat.not_lt_zero _)
    case stopb =>
      rintro D c pre W hD hpre hIx hK
      exact hIx.elim
    case doneb =>
      rintro Db xs Ub hDb hxs hUb hKb
      have BUb : Below Wb.heap.size Wb Ub := bt BVb hUb
      have znb := (boxed_upto nVb hUb).cell
      have HLnb := hide (nob_len _ Ub (HNb.out _ BUb))
      gi_wp2_with fail
      refine ⟨trivial, ?_⟩
      refine (callsIn_wide.2 HLnb.out).mono ?_
      rintro e w3 ⟨rfl, hw3⟩
      have hw4 := hw3.symm
      subst hw4
      clear hw3
      gi_wp2_with fail
      rw [roundsIn_succ]
      gi_wp2_with fail
      refine ⟨trivial, ?_⟩
      refine (callsIn_wide.2 (awake_is _)).mono ?_
      rintro e w7 ⟨rfl, hb7⟩
      gi_wp2_with fail
      have hBW : Below Wb.heap.size Wb w7 := bt BUb hb7
      have hDlt := (Array.getElem?_eq_some_iff.1 hKDa).1
      have hD10 := (hBW.block Da hDlt).trans hKDa
      have hDb10 := (hb7.block Db (Array.getElem?_eq_some_iff.1 hKb).1).trans hKb
      have hVlt := BVb.size
      have hVb' := nVb.lt
      refine ⟨by simp, .inl ⟨_, _, rfl, run_takeDeferred hDb10, ?_⟩⟩
      have hKC := ((grownBy_putObj' w7 Db (.deferred none)).block Da (Array.getElem?_eq_some_iff.1 hD10).1 (fun e => by cases e; omega)).trans hD10
      refine ⟨by simp, .inl ⟨_, _, rfl, run_takeDeferred hKC, ?_⟩⟩
      have hw0 := H0.out.size
      have hBX := BVa.size
      have hBU := BUa.size
      have hBWb := BWb.size
      have hB10 : Below w.heap.size w w7 := bt (bt H0.out (bt BUa BWb)) hBW
      refine ⟨.bool true, ?_, rfl, (hB10.trans (belowK_b (w := w) (Nat.le_refl _) _ Db _ _ (by omega) hDb10 rfl rfl)).trans (belowK_b (w := w) (Nat.le_refl _) _ Da _ _ (by omega) hKC rfl rfl)⟩
      simp [results, Try.f6, go_sem]
end Go.Proofs.Ytdhiomahcilffaa
