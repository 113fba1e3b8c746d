/-
  Free of a great rectangle.
-/
import Derived.Test.YtkodeopkgmichaaMeeting
import Derived.Test.YtkodeopkgmichaaFree
namespace Go.Proofs.Ytkodeopkgmichaa
open Go.RowKit Go.Shelf
set_option linter.unusedVariables false
set_option linter.unusedSimpArgs false
attribute [local go_sem] Oper.semAt_some
/-- What meeting hands back: a function over two boxes, the index and the rectangle. -/
def MtC (w : World) (p : Nat) (x y a b : Int) (v : Value) (w' : World) : Prop :=
  ∃ h, v = .func (.func 61) #[] #[ptr h, ptr (h + 1)] ∧ w.heap.size ≤ h ∧ Boxed w' h 24 (ptr p) ∧ Four w' (h + 1) x y a b ∧ Below w.heap.size w w'
set_option maxHeartbeats 1000000 in
theorem touching_great (p : Nat) (x y a b : Int) (w : World) (hs : sm a b = false) : Calls Try.prog 33 #[ptr p, rct x y a b] w fun e w' => ∃ v, e = .returned v ∧ MtC w p x y a b v w' := by
  have hmt : ∀ w1, Calls Try.prog 49 #[ptr p, rct x y a b] w1 fun e w' => ∃ v, e = .returned v ∧ MtC w1 p x y a b v w' := fun w1 => by
    go_enter Try.func49, Try.ntmps49
    go_wp2_with fail
    go_ret
    refine ⟨_, rfl, w1.heap.size, rfl, Nat.le_refl _, (Boxed.new w1 24 (ptr p)).alloc _, ?_, box2 _ _ _⟩
    simp [Four, go_sem]
  go_enter Try.func33, Try.ntmps33
  go_wp2_with fail
  refine (small_is _ hs).mono ?_
  rintro e w1 ⟨rfl, hb1⟩
  obtain ⟨⟨c0, c1, c2, c3⟩, _, z0⟩ := cells4 hb1
  go_wp2_with fail
  refine (hmt w1).mono ?_
  rintro e w2 ⟨v, rfl, h, rfl, h1, h2, h3, h4⟩
  go_wp2_with fail
  go_ret
  have B := bt (box1 w (.cells #[.int .i64 x, .int .i64 y, .int .i64 a, .int .i64 b] 34)) hb1
  exact ⟨_, rfl, h, rfl, Nat.le_trans B.size h1, h2, h3, bt B h4⟩
set_option maxRecDepth 100000 in
set_option maxHeartbeats 4000000 in
theorem free_great (p fm bm m : Nat) (l : List Bd) (f : Int → Int → Option Int) (x y a b i : Int) (w : World) (h : Ix w p fm bm l.length m (gOf l) f) (hso : Sorted l) (hid : ∀ t ∈ l, W64 t.id) (hm : may x y a b = true) (hs : sm a b = false) :
    Calls Try.prog 22 #[ptr p, rct x y a b, .int .i64 i] w fun e w' => e = .returned (.bool ((mids l x y a b).all (fun j => decide (j = i)))) ∧ Below w.heap.size w w' := by
  obtain ⟨X, hX, B0, z0, F0, I0, R0⟩ := wf_boxes w x y a b i
  have hpl := h.lt
  have h0 := h.kept B0
  have HM := hide (made_yes p fm X h0.c0)
  have HY := hide (may_is X hm)
  obtain ⟨⟨k0, k1, k2, k3⟩, -, -⟩ := id F0
  refine (callsIn_wide (n := 10)).1 ?_
  refine callsIn_of_wp_marks Try.func22 rfl trivial ?_ rfl
  simp only [Try.ntmps22, List.size_toArray, List.length_cons, List.length_nil, Nat.reduceAdd, Nat.reduceSub, Array.replicate_succ, Array.replicate_zero, List.push_toArray, List.append_toArray, List.nil_append, List.cons_append]
  gi_wp2_with fail
  refine ⟨trivial, ?_⟩
  refine (callsIn_wide.2 HM.out).mono ?_
  rintro e w1 ⟨rfl, rfl⟩
  gi_wp2_with fail
  refine ⟨trivial, ?_⟩
  refine (callsIn_wide.2 HY.out).mono ?_
  rintro e w1 ⟨rfl, hb1⟩
  clear hX k0 k1 k2 k3 HM HY
  have F1 := F0.kept hb1
  have I1 := boxed_upto I0 hb1 I0.lt
  have R1 := boxed_upto R0 hb1 R0.lt
  have h1 := h0.kept hb1
  have B1 := bt B0 hb1
  obtain ⟨⟨k0, k1, k2, k3⟩, -, -⟩ := id F1
  gi_wp2_with fail
  refine ⟨trivial, ?_⟩
  refine (callsIn_wide.2 (touching_great p x y a b w1 hs)).mono ?_
  rintro e w2 ⟨v, rfl, q, rfl, hq, hP2, hF2, hb2⟩
  clear k0 k1 k2 k3
  have I2 := boxed_upto I1 hb2 I1.lt
  have R2 := boxed_upto R1 hb2 R1.lt
  have h2 := h1.kept hb2
  have B2 := bt B1 hb2
  gi_wp2_with fail
  have hsz2 := B2.size
  have hRl := R2.lt
  refine range_nest (n := 10) (by omega) (gf := 61) (lb := #[ptr q, ptr (q + 1)]) rfl (enters_of Try.func61 (by kernel_rfl) rfl)
    (meeting_seq (10 - 1) p q fm bm m l.length l f x y a b w2 hP2 hF2 h2 hso hid (Nat.le_refl _)) (fun h k => h.trans k) (belowK_b (Nat.le_refl _)) (Below.refl _ _) (fun _ => rfl)
    (fun pre X => (∀ j ∈ pre, j = i) ∧ Below w2.heap.size w2 X)
    (fun pre X => ((∃ j ∈ pre, j ≠ i) ∧ Boxed X (w.heap.size + 1 + 1) 4 (.bool false)) ∧ Below w.heap.size w X)
    (OwnFrom.and (ownFrom_pure _ _) (ownFrom_below (Nat.le_refl _) (Nat.le_refl _)))
    (OwnFrom.and (OwnFrom.and (ownFrom_pure _ _) (Own.from (boxed_own _ _ _) _)) (ownFrom_below (Nat.le_refl _) (by omega)))
    ⟨fun j hj => by simp at hj, Below.refl _ _⟩
    (fun j a' X => a' = { tmps := #[ptr p, rct x y a b, .int .i64 i, undef, ptr w.heap.size, ptr (w.heap.size + 1), ptr (w.heap.size + 1 + 1), .int .i64 j, ptr p, .bool true, .bool false, .bool false, rct x y a b, .bool true, .bool false, .bool false, ptr p, rct x y a b, .func (.func 61) #[] #[ptr q, ptr (q + 1)], .int .i64 j, undef, undef, undef], defers := [] })
    (fun j a' _ X Y row hs hg hr => hs)
    ?assign ?body ?done ?stop
  case assign =>
    rintro l pre j X K ⟨hp, hB⟩ hK
    gi_wp2
    exact hK _ _ (Keep.refl _ _) (Below.refl _ _) ⟨hp, hB⟩ rfl
  case body =>
    rintro l pre j a' X hl ⟨hp, hB⟩ rfl hlt
    have bI := boxed_upto I2 hB (by omega)
    have bR := boxed_upto R2 hB (by omega)
    have cI := bI.cell
    have cR := bR.cell
    have fR := bR.frozen
    have HBX : Below w.heap.size w X := B2.trans (hB.mono (by omega))
    have Hp := hide hp
    clear hp
    by_cases hj : j = i
    · subst hj
      gi_wp2_with fail
      refine ⟨Keep.refl _ _, Below.refl _ _, fun k hk => ?_, hB⟩
      rcases List.mem_append.1 hk with h | h
      · exact Hp.out k h
      · simpa using h
    · gi_wp2_with fail
      exact ⟨Keep.set _ _ (by simp; omega), ⟨⟨j, by simp, hj⟩, bR.set _⟩, HBX.setCell (p := ⟨w.heap.size + 1 + 1, 0, none⟩) (by simp; omega) _⟩
  case done =>
    rintro D xs X hD ⟨L, hL, rfl⟩ ⟨hp, hB⟩ hK
    have HBX : Below w.heap.size w X := B2.trans (hB.mono (by omega))
    have bR := boxed_upto R2 hB (by omega)
    have cR := bR.cell
    have fR := bR.frozen
    have ht : (mids l x y a b).all (fun j => decide (j = i)) = true := by
      rw [List.all_eq_true]
      intro j hj
      obtain ⟨t, ht, rfl⟩ := List.mem_map.1 hj
      obtain ⟨h1, h2⟩ := List.mem_filter.1 ht
      simpa using hp t.id (List.mem_map.2 ⟨t, List.mem_filter.2 ⟨hL.mem_iff.2 h1, h2⟩, rfl⟩)
    have Ht := hide ht
    clear ht hp
    gi_wp2_with fail
    have hK3 := (KeepsOthers.setCell X ⟨w.heap.size + 1 + 1, 0, none⟩ (.bool true)).same D _ hK rfl
    refine ⟨by simp, .inl ⟨_, _, rfl, run_takeDeferred hK3, ?_⟩⟩
    have hc5 := cell_kept (bR.set (.bool true)).cell (grownBy_putObj' _ D (.deferred none)) (fun r e => by cases e; exact ⟨_, hK3, rfl⟩)
    refine ⟨.bool true, ?_, by rw [Ht.out], (HBX.setCell (p := ⟨w.heap.size + 1 + 1, 0, none⟩) (by simp; omega) _).trans (belowK_b (w := w) (Nat.le_refl _) _ D _ _ (by omega) hK3 rfl rfl)⟩
    simp [results, Try.f22, go_sem, hc5]
  case stop =>
    rintro D pre X hD hpre ⟨⟨⟨j, hj, hne⟩, bR⟩, hB⟩ hK
    have cR := bR.cell
    have ht : (mids l x y a b).all (fun j => decide (j = i)) = false := by
      rw [Bool.eq_false_iff]
      intro h
      exact hne (by simpa using List.all_eq_true.1 h j (hpre j hj))
    have Ht := hide ht
    clear ht hne
    gi_wp2
    refine ⟨by simp, .inl ⟨_, _, rfl, run_takeDeferred hK, ?_⟩⟩
    have hc5 := cell_kept bR.cell (grownBy_putObj' _ D (.deferred none)) (fun r e => by cases e; exact ⟨_, hK, rfl⟩)
    refine ⟨.bool false, ?_, by rw [Ht.out], hB.trans (belowK_b (w := w) (Nat.le_refl _) X D _ _ (by omega) hK rfl rfl)⟩
    simp [results, Try.f22, go_sem, hc5]
/-- What the document's Free says, by the units that meet. -/
theorem mids_free {l : List Bd} (i x y a b : Int) : (mids l x y a b).all (fun j => decide (j = i)) = !(l.any (fun t => decide (t.id ≠ i) && mtB t.r.x t.r.y t.r.a t.r.b x y a b)) := by
  unfold mids
  induction l with
  | nil => rfl
  | cons t r ih =>
    rw [List.filter_cons, List.any_cons, Bool.not_or, ← ih]
    cases mtB t.r.x t.r.y t.r.a t.r.b x y a b <;> simp
end Go.Proofs.Ytkodeopkgmichaa
