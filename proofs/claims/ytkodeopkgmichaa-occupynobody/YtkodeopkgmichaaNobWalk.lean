/-
  phalanxlaw05.OccupyNobody, walked.
-/
import Derived.Test.YtkodeopkgmichaaNob
import Derived.Test.YtkodeopkgmichaaAwake
namespace Go.Proofs.Ytkodeopkgmichaa
open Go.RowKit Go.Shelf
set_option linter.unusedVariables false
attribute [local go_sem] Oper.semAt_some
/-- The box of an act. -/
def Six (w : World) (k : Nat) (d i x y a b : Int) : Prop := w.heap[k]? = some (.cells #[.int .i64 d, .int .i64 i, .int .i64 x, .int .i64 y, .int .i64 a, .int .i64 b] 36 (0, 0))
theorem Six.at {w0 w : World} {k : Nat} {d i x y a b : Int} (h : Six w0 k d i x y a b) (hB : Below w0.heap.size w0 w) :
    w.cell? ⟨k, 0, none⟩ = some (.int .i64 d) ∧ w.cell? ⟨k, 1, none⟩ = some (.int .i64 i) ∧ w.cell? ⟨k, 2, none⟩ = some (.int .i64 x) ∧ w.cell? ⟨k, 3, none⟩ = some (.int .i64 y) ∧ w.cell? ⟨k, 4, none⟩ = some (.int .i64 a) ∧ w.cell? ⟨k, 5, none⟩ = some (.int .i64 b) ∧ k < w.heap.size := by
  have hl := (Array.getElem?_eq_some_iff.1 h).1
  have h' : w.heap[k]? = some (.cells #[.int .i64 d, .int .i64 i, .int .i64 x, .int .i64 y, .int .i64 a, .int .i64 b] 36 (0, 0)) := (hB.block k hl).trans h
  exact ⟨cell_of_row w k 0 _ _ _ h', cell_of_row w k 1 _ _ _ h', cell_of_row w k 2 _ _ _ h', cell_of_row w k 3 _ _ _ h', cell_of_row w k 4 _ _ _ h', cell_of_row w k 5 _ _ _ h', Nat.lt_of_lt_of_le hl hB.size⟩
set_option maxRecDepth 100000 in
set_option maxHeartbeats 8000000 in
theorem nobody_walk (d i x y a b : Int) (w : World) : Calls Try.prog 6 #[.agg #[.int .i64 d, .int .i64 i, .int .i64 x, .int .i64 y, .int .i64 a, .int .i64 b]] w fun e w' => e = .returned (.bool true) ∧ Below w.heap.size w w' := by
  refine (callsIn_wide (n := 10)).1 ?_
  refine callsIn_of_wp_marks Try.func6 rfl trivial ?_ rfl
  simp only [Try.ntmps6, List.size_toArray, List.length_cons, List.length_nil, Nat.reduceAdd, Nat.reduceSub, Array.replicate_succ, Array.replicate_zero, List.push_toArray, List.append_toArray, List.nil_append, List.cons_append]
  have A0 : Six (w.alloc (.cells #[.int .i64 d, .int .i64 i, .int .i64 x, .int .i64 y, .int .i64 a, .int .i64 b] 36)) w.heap.size d i x y a b := heap_alloc_new w _
  gi_wp2_with fail
  refine ⟨trivial, ?_⟩
  refine (callsIn_wide.2 (awake_any _)).mono ?_
  rintro e W0 ⟨rfl, hb0⟩
  have HZ := fun wx (hx : Below W0.heap.size W0 wx) => A0.at (bt hb0 hx)
  have B0 : Below w.heap.size w W0 := bt (box1 _ _) hb0
  have H0 := hide hb0
  clear hb0
  obtain ⟨z0, z1, z2, z3, z4, z5, zl⟩ := HZ W0 (Below.refl _ _)
  gi_wp2_with fail
  refine wpIn_loop_rounds 3 ?_
  rw [roundsIn_succ]
  have HN : ∀ wx, Below W0.heap.size W0 wx → Hid (Nob wx (.pointer none)) := fun wx hx => .inl rfl
  have HB0 := Below.refl W0.heap.size W0
  gi_wp2_with (first | (refine ⟨trivial, ?_⟩; gi_at_call 11; refine (callsIn_wide.2 (nob_at _ _ (HN _ (by first | assumption | exact bt (by assumption) (box1 _ _) | exact bt (by assumption) (box2 _ _ _))).out)).mono ?_; rintro e w11 ⟨rfl, hb⟩; have HB11 := bt (show Below W0.heap.size W0 _ from (by first | assumption | exact bt (by assumption) (box1 _ _) | exact bt (by assumption) (box2 _ _ _))) hb; clear hb; obtain ⟨z0, z1, z2, z3, z4, z5, zl⟩ := HZ w11 HB11) | (refine ⟨trivial, ?_⟩; gi_at_call 13; refine (callsIn_wide.2 (nob_find _ (HN _ (by first | assumption | exact bt (by assumption) (box1 _ _) | exact bt (by assumption) (box2 _ _ _))).out)).mono ?_; rintro e w13 ⟨rfl, hb⟩; have HB13 := bt (show Below W0.heap.size W0 _ from (by first | assumption | exact bt (by assumption) (box1 _ _) | exact bt (by assumption) (box2 _ _ _))) hb; clear hb; obtain ⟨z0, z1, z2, z3, z4, z5, zl⟩ := HZ w13 HB13))
  refine ⟨trivial, ?_⟩
  refine (callsIn_wide.2 (all_fn none _)).mono ?_
  rintro e wA ⟨rfl, rfl⟩
  gi_wp2_with fail
  have BV : Below W0.heap.size W0 (((w13.alloc (.cells #[.int .i64 0, .int .i64 0, .int .i64 0, .int .i64 0] 34)).alloc (.cells #[.int .i64 0] 3)).alloc (.cells #[.pointer none] 24)) := bt HB13 (bt (box2 _ _ _) (box1 _ _))
  have bV : Boxed (((w13.alloc (.cells #[.int .i64 0, .int .i64 0, .int .i64 0, .int .i64 0] 34)).alloc (.cells #[.int .i64 0] 3)).alloc (.cells #[.pointer none] 24)) (w13.heap.size + 1 + 1) 24 (.pointer none) := by
    have := Boxed.new ((w13.alloc (.cells #[.int .i64 0, .int .i64 0, .int .i64 0, .int .i64 0] 34)).alloc (.cells #[.int .i64 0] 3)) 24 (.pointer none)
    simpa using this
  have nV : Boxed (((w13.alloc (.cells #[.int .i64 0, .int .i64 0, .int .i64 0, .int .i64 0] 34)).alloc (.cells #[.int .i64 0] 3)).alloc (.cells #[.pointer none] 24)) (w13.heap.size + 1) 3 (.int .i64 0) := by
    have := (Boxed.new (w13.alloc (.cells #[.int .i64 0, .int .i64 0, .int .i64 0, .int .i64 0] 34)) 3 (.int .i64 0)).alloc (.cells #[.pointer none] 24)
    simpa using this
  obtain ⟨V, hV⟩ : ∃ V, ((w13.alloc (.cells #[.int .i64 0, .int .i64 0, .int .i64 0, .int .i64 0] 34)).alloc (.cells #[.int .i64 0] 3)).alloc (.cells #[.pointer none] 24) = V := ⟨_, rfl⟩
  rw [hV] at BV bV nV ⊢
  clear hV
  refine wpIn_rangeFunc_ownH rfl (by omega) (gf := 38) (lb := #[ptr (w13.heap.size + 1 + 1)]) rfl trivial (enters_of Try.func38 (by kernel_rfl) rfl)
    (nob_stops (10 - 1) (w13.heap.size + 1 + 1) 0 _ V bV (HN V BV).out) kB_t (kB_b bV.lt) (Below.refl _ _) (fun _ => rfl)
    (fun pre W => Below V.heap.size V W) (fun c pre W => False) (ownFrom_below (Nat.le_refl _) (Nat.le_refl _)) (fun c => ownFrom_pure _ _) (Below.refl _ _)
    (fun q a' W => True) (fun q a' _ X Y row hs hg hr => hs) ?assign ?body ?done ?stop
  case assign =>
    rintro l pre q W K hI hK
    gi_wp2
    exact hK _ _ (KeepsFrom.refl _ _) rfl hI trivial
  case body =>
    rintro l pre q a' W hl hr hI hA hlt
    exact absurd hlt (Nat.not_lt_zero _)
  case stop =>
    rintro D c pre W hD hpre hIx hK
    exact hIx.elim
  case done =>
    rintro D xs U hD hxs hU hK
    have BU : Below W0.heap.size W0 U := bt BV hU
    have HNU : ∀ wx, Below U.heap.size U wx → Hid (Nob wx (.pointer none)) := fun wx hx => HN wx (bt BU hx)
    have HZU := fun wx (hx : Below U.heap.size U wx) => show _ ∧ _ from ⟨(boxed_upto (boxed_upto nV hU nV.lt) hx (Nat.lt_of_lt_of_le nV.lt hU.size)).cell, HZ wx (bt BU hx)⟩
    obtain ⟨zn, z0, z1, z2, z3, z4, z5, zl⟩ := HZU U (Below.refl _ _)
    have HBU := Below.refl U.heap.size U
    gi_wp2_with (first | (refine ⟨trivial, ?_⟩; gi_at_call 19; refine (callsIn_wide.2 (nob_put _ _ _ _ _ (HNU _ (by first | assumption | exact bt (by assumption) (box1 _ _) | exact bt (by assumption) (box2 _ _ _))).out)).mono ?_; rintro e w19 ⟨rfl, hb⟩; have HB19 := bt (show Below U.heap.size U _ from (by first | assumption | exact bt (by assumption) (box1 _ _) | exact bt (by assumption) (box2 _ _ _))) hb; clear hb; obtain ⟨zn, z0, z1, z2, z3, z4, z5, zl⟩ := HZU w19 HB19) | (refine ⟨trivial, ?_⟩; gi_at_call 17; refine (callsIn_wide.2 (nob_move _ _ _ (HNU _ (by first | assumption | exact bt (by assumption) (box1 _ _) | exact bt (by assumption) (box2 _ _ _))).out)).mono ?_; rintro e w17 ⟨rfl, hb⟩; have HB17 := bt (show Below U.heap.size U _ from (by first | assumption | exact bt (by assumption) (box1 _ _) | exact bt (by assumption) (box2 _ _ _))) hb; clear hb; obtain ⟨zn, z0, z1, z2, z3, z4, z5, zl⟩ := HZU w17 HB17) | (refine ⟨trivial, ?_⟩; gi_at_call 18; refine (callsIn_wide.2 (nob_take _ (HNU _ (by first | assumption | exact bt (by assumption) (box1 _ _) | exact bt (by assumption) (box2 _ _ _))).out)).mono ?_; rintro e w18 ⟨rfl, hb⟩; have HB18 := bt (show Below U.heap.size U _ from (by first | assumption | exact bt (by assumption) (box1 _ _) | exact bt (by assumption) (box2 _ _ _))) hb; clear hb; obtain ⟨zn, z0, z1, z2, z3, z4, z5, zl⟩ := HZU w18 HB18) | (refine ⟨trivial, ?_⟩; gi_at_call 22; refine (callsIn_wide.2 (nob_free _ _ _ _ _ (HNU _ (by first | assumption | exact bt (by assumption) (box1 _ _) | exact bt (by assumption) (box2 _ _ _))).out)).mono ?_; rintro e w22 ⟨rfl, hb⟩; have HB22 := bt (show Below U.heap.size U _ from (by first | assumption | exact bt (by assumption) (box1 _ _) | exact bt (by assumption) (box2 _ _ _))) hb; clear hb; obtain ⟨zn, z0, z1, z2, z3, z4, z5, zl⟩ := HZU w22 HB22) | (refine ⟨trivial, ?_⟩; gi_at_call 23; refine (callsIn_wide.2 (nob_len (HNU _ (by first | assumption | exact bt (by assumption) (box1 _ _) | exact bt (by assumption) (box2 _ _ _))).out)).mono ?_; rintro e w23 ⟨rfl, hb⟩; have HB23 := bt (show Below U.heap.size U _ from (by first | assumption | exact bt (by assumption) (box1 _ _) | exact bt (by assumption) (box2 _ _ _))) hb; clear hb; obtain ⟨zn, z0, z1, z2, z3, z4, z5, zl⟩ := HZU w23 HB23) | (refine ⟨trivial, ?_⟩; gi_at_call 15; refine (callsIn_wide.2 (nob_within _ _ _ _ (HNU _ (by first | assumption | exact bt (by assumption) (box1 _ _) | exact bt (by assumption) (box2 _ _ _))).out)).mono ?_; rintro e w15 ⟨rfl, hb⟩; have HB15 := bt (show Below U.heap.size U _ from (by first | assumption | exact bt (by assumption) (box1 _ _) | exact bt (by assumption) (box2 _ _ _))) hb; clear hb; obtain ⟨zn, z0, z1, z2, z3, z4, z5, zl⟩ := HZU w15 HB15))
    rw [roundsIn_succ]
    have BW : Below W0.heap.size W0 w15 := bt BU HB15
    obtain ⟨Wb, hWb⟩ : ∃ Wb, w15.alloc (.cells #[.map none, .map none] 62) = Wb := ⟨_, rfl⟩
    have BWb : Below W0.heap.size W0 Wb := by rw [← hWb]; exact bt BW (box1 _ _)
    have HZb := fun wx (hx : Below Wb.heap.size Wb wx) => HZ wx (bt BWb hx)
    have hNb : Wb.heap[w15.heap.size]? = some (.cells #[.map none, .map none] 62 (0, 0)) := by rw [← hWb]; exact heap_alloc_new w15 _
    have HNb : ∀ wx, Below Wb.heap.size Wb wx → Hid (Nob wx (ptr w15.heap.size)) := fun wx hx => .inr ⟨_, rfl, (hx.block _ (Array.getElem?_eq_some_iff.1 hNb).1).trans hNb⟩
    obtain ⟨z0, z1, z2, z3, z4, z5, zl⟩ := HZb Wb (Below.refl _ _)
    have HBb0 := Below.refl Wb.heap.size Wb
    have hKD : Wb.heap[D]? = some (.deferred (some [])) := by rw [← hWb]; exact (Below.heap_alloc w15 _ D (Nat.lt_of_lt_of_le (Array.getElem?_eq_some_iff.1 hK).1 HB15.size)).trans ((HB15.block D (Array.getElem?_eq_some_iff.1 hK).1).trans hK)
    gi_wp2_with (first | (refine ⟨trivial, ?_⟩; gi_at_call 11; refine (callsIn_wide.2 (nob_at _ _ (HNb _ (by first | assumption | exact bt (by assumption) (box1 _ _) | exact bt (by assumption) (box2 _ _ _))).out)).mono ?_; rintro e w11b ⟨rfl, hb⟩; have HB11b := bt (show Below Wb.heap.size Wb _ from (by first | assumption | exact bt (by assumption) (box1 _ _) | exact bt (by assumption) (box2 _ _ _))) hb; clear hb; obtain ⟨z0, z1, z2, z3, z4, z5, zl⟩ := HZb w11b HB11b) | (refine ⟨trivial, ?_⟩; gi_at_call 13; refine (callsIn_wide.2 (nob_find _ (HNb _ (by first | assumption | exact bt (by assumption) (box1 _ _) | exact bt (by assumption) (box2 _ _ _))).out)).mono ?_; rintro e w13b ⟨rfl, hb⟩; have HB13b := bt (show Below Wb.heap.size Wb _ from (by first | assumption | exact bt (by assumption) (box1 _ _) | exact bt (by assumption) (box2 _ _ _))) hb; clear hb; obtain ⟨z0, z1, z2, z3, z4, z5, zl⟩ := HZb w13b HB13b))
    refine ⟨trivial, ?_⟩
    refine (callsIn_wide.2 (all_fn (some ⟨w15.heap.size, 0, none⟩) _)).mono ?_
    rintro e wAb ⟨rfl, rfl⟩
    gi_wp2_with fail
    have BVb : Below Wb.heap.size Wb (((w13b.alloc (.cells #[.int .i64 0, .int .i64 0, .int .i64 0, .int .i64 0] 34)).alloc (.cells #[.int .i64 0] 3)).alloc (.cells #[ptr w15.heap.size] 24)) := bt HB13b (bt (box2 _ _ _) (box1 _ _))
    have bVb : Boxed (((w13b.alloc (.cells #[.int .i64 0, .int .i64 0, .int .i64 0, .int .i64 0] 34)).alloc (.cells #[.int .i64 0] 3)).alloc (.cells #[ptr w15.heap.size] 24)) (w13b.heap.size + 1 + 1) 24 (ptr w15.heap.size) := by
      have := Boxed.new ((w13b.alloc (.cells #[.int .i64 0, .int .i64 0, .int .i64 0, .int .i64 0] 34)).alloc (.cells #[.int .i64 0] 3)) 24 (ptr w15.heap.size)
      simpa using this
    have nVb : Boxed (((w13b.alloc (.cells #[.int .i64 0, .int .i64 0, .int .i64 0, .int .i64 0] 34)).alloc (.cells #[.int .i64 0] 3)).alloc (.cells #[ptr w15.heap.size] 24)) (w13b.heap.size + 1) 3 (.int .i64 0) := by
      have := (Boxed.new (w13b.alloc (.cells #[.int .i64 0, .int .i64 0, .int .i64 0, .int .i64 0] 34)) 3 (.int .i64 0)).alloc (.cells #[ptr w15.heap.size] 24)
      simpa using this
    obtain ⟨Vb, hVb⟩ : ∃ V, ((w13b.alloc (.cells #[.int .i64 0, .int .i64 0, .int .i64 0, .int .i64 0] 34)).alloc (.cells #[.int .i64 0] 3)).alloc (.cells #[ptr w15.heap.size] 24) = V := ⟨_, rfl⟩
    rw [hVb] at BVb bVb nVb ⊢
    clear hVb
    refine wpIn_rangeFunc_ownH rfl (by omega) (gf := 38) (lb := #[ptr (w13b.heap.size + 1 + 1)]) rfl trivial (enters_of Try.func38 (by kernel_rfl) rfl)
      (nob_stops (10 - 1) (w13b.heap.size + 1 + 1) 0 _ Vb bVb (HNb Vb BVb).out) kB_t (kB_b bVb.lt) (Below.refl _ _) (fun _ => rfl)
      (fun pre W => Below Vb.heap.size Vb W) (fun c pre W => False) (ownFrom_below (Nat.le_refl _) (Nat.le_refl _)) (fun c => ownFrom_pure _ _) (Below.refl _ _)
      (fun q a' W => True) (fun q a' _ X Y row hs hg hr => hs) ?assignb ?bodyb ?doneb ?stopb
    case assignb =>
      rintro l pre q W K hI hK
      gi_wp2
      exact hK _ _ (KeepsFrom.refl _ _) rfl hI trivial
    case bodyb =>
      rintro l pre q a' W hl hr hI hA hlt
      exact absurd hlt (Nat.not_lt_zero _)
    case stopb =>
      rintro D c pre W hD hpre hIx hK
      exact hIx.elim
    case doneb =>
      rintro Db xs Ub hDb hxs hUb hKb
      have BUb : Below Wb.heap.size Wb Ub := bt BVb hUb
      have HNUb : ∀ wx, Below Ub.heap.size Ub wx → Hid (Nob wx (ptr w15.heap.size)) := fun wx hx => HNb wx (bt BUb hx)
      have HZUb := fun wx (hx : Below Ub.heap.size Ub wx) => show _ ∧ _ from ⟨(boxed_upto (boxed_upto nVb hUb nVb.lt) hx (Nat.lt_of_lt_of_le nVb.lt hUb.size)).cell, HZb wx (bt BUb hx)⟩
      obtain ⟨zn, z0, z1, z2, z3, z4, z5, zl⟩ := HZUb Ub (Below.refl _ _)
      have HBUb := Below.refl Ub.heap.size Ub
      gi_wp2_with (first | (refine ⟨trivial, ?_⟩; gi_at_call 19; refine (callsIn_wide.2 (nob_put _ _ _ _ _ (HNUb _ (by first | assumption | exact bt (by assumption) (box1 _ _) | exact bt (by assumption) (box2 _ _ _))).out)).mono ?_; rintro e w19b ⟨rfl, hb⟩; have HB19b := bt (show Below Ub.heap.size Ub _ from (by first | assumption | exact bt (by assumption) (box1 _ _) | exact bt (by assumption) (box2 _ _ _))) hb; clear hb; obtain ⟨zn, z0, z1, z2, z3, z4, z5, zl⟩ := HZUb w19b HB19b) | (refine ⟨trivial, ?_⟩; gi_at_call 17; refine (callsIn_wide.2 (nob_move _ _ _ (HNUb _ (by first | assumption | exact bt (by assumption) (box1 _ _) | exact bt (by assumption) (box2 _ _ _))).out)).mono ?_; rintro e w17b ⟨rfl, hb⟩; have HB17b := bt (show Below Ub.heap.size Ub _ from (by first | assumption | exact bt (by assumption) (box1 _ _) | exact bt (by assumption) (box2 _ _ _))) hb; clear hb; obtain ⟨zn, z0, z1, z2, z3, z4, z5, zl⟩ := HZUb w17b HB17b) | (refine ⟨trivial, ?_⟩; gi_at_call 18; refine (callsIn_wide.2 (nob_take _ (HNUb _ (by first | assumption | exact bt (by assumption) (box1 _ _) | exact bt (by assumption) (box2 _ _ _))).out)).mono ?_; rintro e w18b ⟨rfl, hb⟩; have HB18b := bt (show Below Ub.heap.size Ub _ from (by first | assumption | exact bt (by assumption) (box1 _ _) | exact bt (by assumption) (box2 _ _ _))) hb; clear hb; obtain ⟨zn, z0, z1, z2, z3, z4, z5, zl⟩ := HZUb w18b HB18b) | (refine ⟨trivial, ?_⟩; gi_at_call 22; refine (callsIn_wide.2 (nob_free _ _ _ _ _ (HNUb _ (by first | assumption | exact bt (by assumption) (box1 _ _) | exact bt (by assumption) (box2 _ _ _))).out)).mono ?_; rintro e w22b ⟨rfl, hb⟩; have HB22b := bt (show Below Ub.heap.size Ub _ from (by first | assumption | exact bt (by assumption) (box1 _ _) | exact bt (by assumption) (box2 _ _ _))) hb; clear hb; obtain ⟨zn, z0, z1, z2, z3, z4, z5, zl⟩ := HZUb w22b HB22b) | (refine ⟨trivial, ?_⟩; gi_at_call 23; refine (callsIn_wide.2 (nob_len (HNUb _ (by first | assumption | exact bt (by assumption) (box1 _ _) | exact bt (by assumption) (box2 _ _ _))).out)).mono ?_; rintro e w23b ⟨rfl, hb⟩; have HB23b := bt (show Below Ub.heap.size Ub _ from (by first | assumption | exact bt (by assumption) (box1 _ _) | exact bt (by assumption) (box2 _ _ _))) hb; clear hb; obtain ⟨zn, z0, z1, z2, z3, z4, z5, zl⟩ := HZUb w23b HB23b) | (refine ⟨trivial, ?_⟩; gi_at_call 15; refine (callsIn_wide.2 (nob_within _ _ _ _ (HNUb _ (by first | assumption | exact bt (by assumption) (box1 _ _) | exact bt (by assumption) (box2 _ _ _))).out)).mono ?_; rintro e w15b ⟨rfl, hb⟩; have HB15b := bt (show Below Ub.heap.size Ub _ from (by first | assumption | exact bt (by assumption) (box1 _ _) | exact bt (by assumption) (box2 _ _ _))) hb; clear hb; obtain ⟨zn, z0, z1, z2, z3, z4, z5, zl⟩ := HZUb w15b HB15b))
      rw [roundsIn_succ]
      have BW2 : Below Wb.heap.size Wb w15b := bt BUb HB15b
      gi_wp2_with (refine ⟨trivial, ?_⟩; gi_at_call 7; refine (callsIn_wide.2 (awake_any _)).mono ?_; rintro e w7 ⟨rfl, hb7⟩)
      have hBW : Below Wb.heap.size Wb w7 := bt BW2 hb7
      have hDlt := (Array.getElem?_eq_some_iff.1 hKD).1
      have hD10 := (hBW.block D hDlt).trans hKD
      have hDb10 := (hb7.block Db (Nat.lt_of_lt_of_le (Array.getElem?_eq_some_iff.1 hKb).1 HB15b.size)).trans ((HB15b.block Db (Array.getElem?_eq_some_iff.1 hKb).1).trans hKb)
      have hVlt := BVb.size
      refine ⟨by simp, .inl ⟨_, _, rfl, run_takeDeferred hDb10, ?_⟩⟩
      have hKC := ((grownBy_putObj' w7 Db (.deferred none)).block D (Array.getElem?_eq_some_iff.1 hD10).1 (fun e => by cases e; omega)).trans hD10
      refine ⟨by simp, .inl ⟨_, _, rfl, run_takeDeferred hKC, ?_⟩⟩
      have hw0 := B0.size
      have hBX := BV.size
      have hBWb := BWb.size
      have hB10 : Below w.heap.size w w7 := bt (bt B0 BWb) hBW
      refine ⟨.bool true, ?_, rfl, (hB10.trans (belowK_b (w := w) (Nat.le_refl _) _ Db _ _ (by omega) hDb10 rfl rfl)).trans (belowK_b (w := w) (Nat.le_refl _) _ D _ _ (by omega) hKC rfl rfl)⟩
      simp [results, Try.f6, go_sem]
end Go.Proofs.Ytkodeopkgmichaa
