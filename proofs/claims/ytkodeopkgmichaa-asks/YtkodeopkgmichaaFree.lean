/-
  Free of a rectangle that may not be, and of a small one.
-/
import Derived.Test.YtkodeopkgmichaaOnCells
namespace Go.Proofs.Ytkodeopkgmichaa
open Go.RowKit Go.Shelf
set_option linter.unusedVariables false
attribute [local go_sem] Oper.semAt_some
/-- The boxes of Free: the rectangle, the number, the answer. -/
theorem wf_boxes (w : World) (x y a b i : Int) : ∃ X, ((w.alloc (.cells #[.int .i64 x, .int .i64 y, .int .i64 a, .int .i64 b] 34)).alloc (.cells #[.int .i64 i] 3)).alloc (.cells #[.bool false] 4) = X ∧ Below w.heap.size w X ∧ X.heap.size = w.heap.size + 3 ∧
    Four X w.heap.size x y a b ∧ Boxed X (w.heap.size + 1) 3 (.int .i64 i) ∧ Boxed X (w.heap.size + 1 + 1) 4 (.bool false) := by
  refine ⟨_, rfl, bt (box2 _ _ _) (box1 _ _), by simp, cells4 (box2 _ _ _), ?_, ?_⟩
  · have := (Boxed.new (w.alloc (.cells #[.int .i64 x, .int .i64 y, .int .i64 a, .int .i64 b] 34)) 3 (.int .i64 i)).alloc (.cells #[.bool false] 4)
    simpa using this
  · have := Boxed.new ((w.alloc (.cells #[.int .i64 x, .int .i64 y, .int .i64 a, .int .i64 b] 34)).alloc (.cells #[.int .i64 i] 3)) 4 (.bool false)
    simpa using this
set_option maxRecDepth 100000 in
set_option maxHeartbeats 2000000 in
theorem free_no (p fm : Nat) (x y a b i : Int) (w : World) (hc : w.cell? ⟨p, 0, none⟩ = some (.map (some fm))) (hm : may x y a b = false) :
    Calls Try.prog 22 #[ptr p, rct x y a b, .int .i64 i] w fun e w' => e = .returned (.bool false) ∧ Below w.heap.size w w' := by
  obtain ⟨X, hX, B0, z0, F0, I0, R0⟩ := wf_boxes w x y a b i
  have hpl := World.block_lt_of_cell? w _ hc
  have HM := hide (made_yes p fm X ((B0.cell (p := ⟨p, 0, none⟩) hpl).trans hc))
  have HY := hide (may_is X hm)
  obtain ⟨⟨k0, k1, k2, k3⟩, -, -⟩ := id F0
  refine (callsIn_wide (n := 10)).1 ?_
  refine callsIn_of_wp_marks Try.func22 rfl trivial ?_ rfl
  simp only [Try.ntmps22, List.size_toArray, List.length_cons, List.length_nil, Nat.reduceAdd, Nat.reduceSub, Array.replicate_succ, Array.replicate_zero, List.push_toArray, List.append_toArray, List.nil_append, List.cons_append]
  gi_wp2_with fail
  refine ⟨trivial, ?_⟩
  refine (callsIn_wide.2 HM.out).mono ?_
  rintro e w1 ⟨rfl, rfl⟩
  gi_wp2_with fail
  refine ⟨trivial, ?_⟩
  refine (callsIn_wide.2 HY.out).mono ?_
  rintro e w1 ⟨rfl, hb1⟩
  have R1 := boxed_upto R0 hb1 R0.lt
  have cR := R1.cell
  have fR := R1.frozen
  clear hX
  gi_wp2_with fail
  have hc5 := (R1.set (.bool false)).cell
  refine ⟨.bool false, ?_, rfl, (bt B0 hb1).setCell (p := ⟨w.heap.size + 1 + 1, 0, none⟩) (by simp; omega) _⟩
  simp [results, Try.f22, go_sem, hc5]
set_option maxRecDepth 100000 in
set_option maxHeartbeats 2000000 in
theorem free_small (p fm bm n m : Nat) (g : Int → Option Rc) (f : Int → Int → Option Int) (x y a b i : Int) (w : World) (h : Ix w p fm bm n m g f) (hm : may x y a b = true) (hs : sm a b = true) :
    Calls Try.prog 22 #[ptr p, rct x y a b, .int .i64 i] w fun e w' => e = .returned (.bool ((onL f (allC x y a b)).all (fun j => decide (j = i)))) ∧ Below w.heap.size w w' := by
  obtain ⟨X, hX, B0, z0, F0, I0, R0⟩ := wf_boxes w x y a b i
  have hpl := h.lt
  have h0 := h.kept B0
  have HM := hide (made_yes p fm X h0.c0)
  have HY := hide (may_is X hm)
  obtain ⟨⟨k0, k1, k2, k3⟩, -, -⟩ := id F0
  refine (callsIn_wide (n := 10)).1 ?_
  refine callsIn_of_wp_marks Try.func22 rfl trivial ?_ rfl
  simp only [Try.ntmps22, List.size_toArray, List.length_cons, List.length_nil, Nat.reduceAdd, Nat.reduceSub, Array.replicate_succ, Array.replicate_zero, List.push_toArray, List.append_toArray, List.nil_append, List.cons_append]
  gi_wp2_with fail
  refine ⟨trivial, ?_⟩
  refine (callsIn_wide.2 HM.out).mono ?_
  rintro e w1 ⟨rfl, rfl⟩
  gi_wp2_with fail
  refine ⟨trivial, ?_⟩
  refine (callsIn_wide.2 HY.out).mono ?_
  rintro e w1 ⟨rfl, hb1⟩
  clear hX k0 k1 k2 k3 HM HY
  have F1 := F0.kept hb1
  have I1 := boxed_upto I0 hb1 I0.lt
  have R1 := boxed_upto R0 hb1 R0.lt
  have h1 := h0.kept hb1
  have B1 := bt B0 hb1
  obtain ⟨⟨k0, k1, k2, k3⟩, -, -⟩ := id F1
  gi_wp2_with fail
  refine ⟨trivial, ?_⟩
  refine (callsIn_wide.2 (touching_small p x y a b w1 hs)).mono ?_
  rintro e w2 ⟨v, rfl, q, rfl, hq, hP2, hF2, hb2⟩
  clear k0 k1 k2 k3
  have I2 := boxed_upto I1 hb2 I1.lt
  have R2 := boxed_upto R1 hb2 R1.lt
  have h2 := h1.kept hb2
  have B2 := bt B1 hb2
  gi_wp2_with fail
  have hsz2 := B2.size
  have hRl := R2.lt
  obtain ⟨N, hN⟩ : ∃ N, b.toNat * a.toNat = N := ⟨_, rfl⟩
  refine range_nest (n := 10) (by omega) (gf := 60) (lb := #[ptr (q + 1), ptr q]) rfl (enters_of Try.func60 (by kernel_rfl) rfl)
    (onCells_seq (10 - 1) p q bm m N f x y a b w2 (by omega) hP2 hF2 h2.c1 h2.who (fun _ => by omega)) (fun h k => h.trans k) (belowK_b (Nat.le_refl _)) (Below.refl _ _) (fun _ => rfl)
    (fun pre X => (∀ j ∈ pre, j = i) ∧ Below w2.heap.size w2 X)
    (fun pre X => ((∃ j ∈ pre, j ≠ i) ∧ Boxed X (w.heap.size + 1 + 1) 4 (.bool false)) ∧ Below w.heap.size w X)
    (OwnFrom.and (ownFrom_pure _ _) (ownFrom_below (Nat.le_refl _) (Nat.le_refl _)))
    (OwnFrom.and (OwnFrom.and (ownFrom_pure _ _) (Own.from (boxed_own _ _ _) _)) (ownFrom_below (Nat.le_refl _) (by omega)))
    ⟨fun j hj => by simp at hj, Below.refl _ _⟩
    (fun j a' X => a' = { tmps := #[ptr p, rct x y a b, .int .i64 i, undef, ptr w.heap.size, ptr (w.heap.size + 1), ptr (w.heap.size + 1 + 1), .int .i64 j, ptr p, .bool true, .bool false, .bool false, rct x y a b, .bool true, .bool false, .bool false, ptr p, rct x y a b, .func (.func 60) #[] #[ptr (q + 1), ptr q], .int .i64 j, undef, undef, undef], defers := [] })
    (fun j a' _ X Y row hs hg hr => hs)
    ?assign ?body ?done ?stop
  case assign =>
    rintro l pre j X K ⟨hp, hB⟩ hK
    gi_wp2
    exact hK _ _ (Keep.refl _ _) (Below.refl _ _) ⟨hp, hB⟩ rfl
  case body =>
    rintro l pre j a' X hl ⟨hp, hB⟩ rfl hlt
    have bI := boxed_upto I2 hB (by omega)
    have bR := boxed_upto R2 hB (by omega)
    have cI := bI.cell
    have cR := bR.cell
    have fR := bR.frozen
    have HBX : Below w.heap.size w X := B2.trans (hB.mono (by omega))
    have Hp := hide hp
    clear hp
    by_cases hj : j = i
    · subst hj
      gi_wp2_with fail
      refine ⟨Keep.refl _ _, Below.refl _ _, fun k hk => ?_, hB⟩
      rcases List.mem_append.1 hk with h | h
      · exact Hp.out k h
      · simpa using h
    · gi_wp2_with fail
      exact ⟨Keep.set _ _ (by simp; omega), ⟨⟨j, by simp, hj⟩, bR.set _⟩, HBX.setCell (p := ⟨w.heap.size + 1 + 1, 0, none⟩) (by simp; omega) _⟩
  case done =>
    rintro D xs X hD rfl ⟨hp, hB⟩ hK
    have HBX : Below w.heap.size w X := B2.trans (hB.mono (by omega))
    have bR := boxed_upto R2 hB (by omega)
    have cR := bR.cell
    have fR := bR.frozen
    have ht : (onL f (allC x y a b)).all (fun j => decide (j = i)) = true := by
      rw [List.all_eq_true]
      intro j hj
      simpa using hp j hj
    have Ht := hide ht
    clear ht hp
    gi_wp2_with fail
    have hK3 := (KeepsOthers.setCell X ⟨w.heap.size + 1 + 1, 0, none⟩ (.bool true)).same D _ hK rfl
    refine ⟨by simp, .inl ⟨_, _, rfl, run_takeDeferred hK3, ?_⟩⟩
    have hc5 := cell_kept (bR.set (.bool true)).cell (grownBy_putObj' _ D (.deferred none)) (fun r e => by cases e; exact ⟨_, hK3, rfl⟩)
    refine ⟨.bool true, ?_, by rw [Ht.out], (HBX.setCell (p := ⟨w.heap.size + 1 + 1, 0, none⟩) (by simp; omega) _).trans (belowK_b (w := w) (Nat.le_refl _) _ D _ _ (by omega) hK3 rfl rfl)⟩
    simp [results, Try.f22, go_sem, hc5]
  case stop =>
    rintro D pre X hD hpre ⟨⟨⟨j, hj, hne⟩, bR⟩, hB⟩ hK
    have cR := bR.cell
    have ht : (onL f (allC x y a b)).all (fun j => decide (j = i)) = false := by
      rw [Bool.eq_false_iff]
      intro h
      exact hne (by simpa using List.all_eq_true.1 h j (hpre.subset hj))
    have Ht := hide ht
    clear ht hne
    gi_wp2
    refine ⟨by simp, .inl ⟨_, _, rfl, run_takeDeferred hK, ?_⟩⟩
    have hc5 := cell_kept bR.cell (grownBy_putObj' _ D (.deferred none)) (fun r e => by cases e; exact ⟨_, hK, rfl⟩)
    refine ⟨.bool false, ?_, by rw [Ht.out], hB.trans (belowK_b (w := w) (Nat.le_refl _) X D _ _ (by omega) hK rfl rfl)⟩
    simp [results, Try.f22, go_sem, hc5]
end Go.Proofs.Ytkodeopkgmichaa
