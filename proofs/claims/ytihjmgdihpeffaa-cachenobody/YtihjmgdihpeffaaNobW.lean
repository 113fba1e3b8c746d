/-
  phalanxlaw16.CacheNobody, walked.
-/
import Derived.Test.YtihjmgdihpeffaaNob
namespace Go.Proofs.Ytihjmgdihpeffaa
open Go.RowKit Go.Shelf
set_option linter.unusedVariables false
set_option linter.unusedSimpArgs false
attribute [local go_sem] Oper.semAt_some
set_option maxRecDepth 100000 in
set_option maxHeartbeats 4000000 in
theorem nobody_walk (q : K6) (hq : W6 q) (w : World) : Calls Try.prog 5 #[kv q] w fun e w' => e = .returned (.bool true) ∧ Below w.heap.size w w' := by
  refine (callsIn_wide (n := 10)).1 ?_
  refine callsIn_of_wp_marks Try.func5 rfl trivial ?_ rfl
  simp only [Try.ntmps5, List.size_toArray, List.length_cons, List.length_nil, Nat.reduceAdd, Nat.reduceSub, Array.replicate_succ, Array.replicate_zero, List.push_toArray, List.append_toArray, List.nil_append, List.cons_append]
  obtain ⟨X, hX⟩ : ∃ X, w.alloc (.cells #[.int .i64 q.1, .int .i64 q.2.1, .int .i64 q.2.2.1, .int .i64 q.2.2.2.1, .int .i64 q.2.2.2.2.1, .int .i64 q.2.2.2.2.2] 36) = X := ⟨_, rfl⟩
  have B0 : Below w.heap.size w X := by rw [← hX]; exact box1 _ _
  have K0 : Bk X w.heap.size 36 (kCs q) := by rw [← hX]; exact Bk.new w 36 (kCs q)
  have HX := hide hX
  have HB0 := hide B0
  have HZX := hide K0
  clear hX B0 K0
  gi_wp2_with (rw [HX.out])
  refine ⟨trivial, ?_⟩
  refine (callsIn_wide.2 (awake_any _)).mono ?_
  rintro e W0 ⟨rfl, hb0⟩
  have HZ := fun wx (hx : Below W0.heap.size W0 wx) => (show wx.cell? ⟨w.heap.size, 0, none⟩ = some (.int .i64 q.1) ∧ wx.cell? ⟨w.heap.size, 1, none⟩ = some (.int .i64 q.2.1) ∧ wx.cell? ⟨w.heap.size, 2, none⟩ = some (.int .i64 q.2.2.1) ∧ wx.cell? ⟨w.heap.size, 3, none⟩ = some (.int .i64 q.2.2.2.1) ∧ wx.cell? ⟨w.heap.size, 4, none⟩ = some (.int .i64 q.2.2.2.2.1) ∧ wx.cell? ⟨w.heap.size, 5, none⟩ = some (.int .i64 q.2.2.2.2.2) ∧ w.heap.size < wx.heap.size from by
    have K := (HZX.out.upto hb0).upto hx
    exact ⟨K.cell 0 _ rfl, K.cell 1 _ rfl, K.cell 2 _ rfl, K.cell 3 _ rfl, K.cell 4 _ rfl, K.cell 5 _ rfl, K.lt⟩)
  have B0 : Below w.heap.size w W0 := HB0.out.trans (hb0.mono HB0.out.size)
  clear hb0 HX
  obtain ⟨z0, z1, z2, z3, z4, z5, zl⟩ := HZ W0 (Below.refl _ _)
  gi_wp2_with fail
  refine wpIn_loop_rounds 3 ?_
  rw [roundsIn_succ]
  have HN : ∀ wx, Below W0.heap.size W0 wx → Hid (Nob wx (.pointer none)) := fun wx hx => .inl rfl
  have HBa := Below.refl W0.heap.size W0
  gi_wp2_with (first | (refine ⟨trivial, ?_⟩; gi_at_call 12; refine (callsIn_wide.2 (nob_put _ _ _ _ (HN _ (by first | assumption | exact bt (by assumption) (box1 _ _) | exact bt (by assumption) (box2 _ _ _))).out)).mono ?_; rintro e wpa ⟨rfl, hb⟩; have HBwpa := bt (show Below W0.heap.size W0 _ from (by first | assumption | exact bt (by assumption) (box1 _ _) | exact bt (by assumption) (box2 _ _ _))) hb; clear hb; obtain ⟨z0, z1, z2, z3, z4, z5, zl⟩ := HZ wpa HBwpa) | (refine ⟨trivial, ?_⟩; gi_at_call 9; refine (callsIn_wide.2 (nob_get _ _ (HN _ (by first | assumption | exact bt (by assumption) (box1 _ _) | exact bt (by assumption) (box2 _ _ _))).out)).mono ?_; rintro e wga ⟨rfl, hb⟩; have HBwga := bt (show Below W0.heap.size W0 _ from (by first | assumption | exact bt (by assumption) (box1 _ _) | exact bt (by assumption) (box2 _ _ _))) hb; clear hb; obtain ⟨z0, z1, z2, z3, z4, z5, zl⟩ := HZ wga HBwga))
  refine ⟨trivial, ?_⟩
  refine (callsIn_wide.2 (all_fn none _)).mono ?_
  rintro e wAa ⟨rfl, rfl⟩
  gi_wp2_with fail
  have BVa : Below W0.heap.size W0 (((wga.alloc (.cells #[.int .i64 0, .slice none 0 0] 39)).alloc (.cells #[.int .i64 0] 3)).alloc (.cells #[.pointer none] 24)) := bt HBwga (bt (box2 _ _ _) (box1 _ _))
  have bVa : Boxed (((wga.alloc (.cells #[.int .i64 0, .slice none 0 0] 39)).alloc (.cells #[.int .i64 0] 3)).alloc (.cells #[.pointer none] 24)) (wga.heap.size + 1 + 1) 24 (.pointer none) := by
    have := Boxed.new ((wga.alloc (.cells #[.int .i64 0, .slice none 0 0] 39)).alloc (.cells #[.int .i64 0] 3)) 24 (.pointer none)
    simpa using this
  have nVa : Boxed (((wga.alloc (.cells #[.int .i64 0, .slice none 0 0] 39)).alloc (.cells #[.int .i64 0] 3)).alloc (.cells #[.pointer none] 24)) (wga.heap.size + 1) 3 (.int .i64 0) := by
    have := (Boxed.new (wga.alloc (.cells #[.int .i64 0, .slice none 0 0] 39)) 3 (.int .i64 0)).alloc (.cells #[.pointer none] 24)
    simpa using this
  obtain ⟨Va, hV⟩ : ∃ V, ((wga.alloc (.cells #[.int .i64 0, .slice none 0 0] 39)).alloc (.cells #[.int .i64 0] 3)).alloc (.cells #[.pointer none] 24) = V := ⟨_, rfl⟩
  rw [hV] at BVa bVa nVa ⊢
  clear hV
  refine wpIn_rangeFunc_ownH rfl (by omega) (gf := 22) (lb := #[ptr (wga.heap.size + 1 + 1)]) rfl trivial (enters_of Try.func22 (by kernel_rfl) rfl)
    (nob_stops (10 - 1) (wga.heap.size + 1 + 1) 0 _ Va bVa (HN Va BVa).out) kB_t (kB_b bVa.lt) (Below.refl _ _) (fun _ => rfl)
    (fun pre W => Below Va.heap.size Va W) (fun c pre W => False) (ownFrom_below (Nat.le_refl _) (Nat.le_refl _)) (fun c => ownFrom_pure _ _) (Below.refl _ _)
    (fun q a' W => True) (fun q a' _ X Y row hs hg hr => hs) ?assigna ?bodya ?donea ?stopa
  case assigna =>
    rintro l pre q W K hI hK
    gi_wp2
    exact hK _ _ (KeepsFrom.refl _ _) rfl hI trivial
  case bodya =>
    rintro l pre q a' W hl hr hI hA hlt
    exact absurd hlt (Nat.not_lt_zero _)
  case stopa =>
    rintro D c pre W hD hpre hIx hK
    exact hIx.elim
  case donea =>
    rintro Da xs Ua hDa hxs hU hKa
    have BUa : Below W0.heap.size W0 Ua := bt BVa hU
    have zn := (boxed_upto nVa hU nVa.lt).cell
    have HLn := hide (nob_len (HN Ua BUa).out)
    gi_wp2_with (refine ⟨trivial, ?_⟩; gi_at_call 15; refine (callsIn_wide.2 HLn.out).mono ?_; rintro e wla ⟨rfl, hwl⟩; rw [hwl]; clear hwl)
    rw [roundsIn_succ]
    obtain ⟨Wb, hWb⟩ : ∃ Wb, Ua.alloc (.cells #[.int .i64 0, .int .i64 0, .map none, .slice none 0 0] 61) = Wb := ⟨_, rfl⟩
    have BWb : Below W0.heap.size W0 Wb := by rw [← hWb]; exact bt BUa (box1 _ _)
    have HZb := fun wx (hx : Below Wb.heap.size Wb wx) => HZ wx (bt BWb hx)
    have hNb : Bk Wb Ua.heap.size 61 [.int .i64 0, .int .i64 0, .map none, .slice none 0 0] := by rw [← hWb]; exact Bk.new _ _ _
    have HNb : ∀ wx, Below Wb.heap.size Wb wx → Hid (Nob wx (ptr Ua.heap.size)) := fun wx hx => .inr ⟨_, rfl, hNb.upto hx⟩
    obtain ⟨z0, z1, z2, z3, z4, z5, zl⟩ := HZb Wb (Below.refl _ _)
    have HBb := Below.refl Wb.heap.size Wb
    have hKD : Wb.heap[Da]? = some (.deferred (some [])) := by rw [← hWb]; exact (Below.heap_alloc Ua _ Da (Array.getElem?_eq_some_iff.1 hKa).1).trans hKa
    gi_wp2_with (first | (refine ⟨trivial, ?_⟩; gi_at_call 12; refine (callsIn_wide.2 (nob_put _ _ _ _ (HNb _ (by first | assumption | exact bt (by assumption) (box1 _ _) | exact bt (by assumption) (box2 _ _ _))).out)).mono ?_; rintro e wpb ⟨rfl, hb⟩; have HBwpb := bt (show Below Wb.heap.size Wb _ from (by first | assumption | exact bt (by assumption) (box1 _ _) | exact bt (by assumption) (box2 _ _ _))) hb; clear hb; obtain ⟨z0, z1, z2, z3, z4, z5, zl⟩ := HZb wpb HBwpb) | (refine ⟨trivial, ?_⟩; gi_at_call 9; refine (callsIn_wide.2 (nob_get _ _ (HNb _ (by first | assumption | exact bt (by assumption) (box1 _ _) | exact bt (by assumption) (box2 _ _ _))).out)).mono ?_; rintro e wgb ⟨rfl, hb⟩; have HBwgb := bt (show Below Wb.heap.size Wb _ from (by first | assumption | exact bt (by assumption) (box1 _ _) | exact bt (by assumption) (box2 _ _ _))) hb; clear hb; obtain ⟨z0, z1, z2, z3, z4, z5, zl⟩ := HZb wgb HBwgb))
    refine ⟨trivial, ?_⟩
    refine (callsIn_wide.2 (all_fn (some ⟨Ua.heap.size, 0, none⟩) _)).mono ?_
    rintro e wAb ⟨rfl, rfl⟩
    gi_wp2_with fail
    have BVb : Below Wb.heap.size Wb (((wgb.alloc (.cells #[.int .i64 0, .slice none 0 0] 39)).alloc (.cells #[.int .i64 0] 3)).alloc (.cells #[ptr Ua.heap.size] 24)) := bt HBwgb (bt (box2 _ _ _) (box1 _ _))
    have bVb : Boxed (((wgb.alloc (.cells #[.int .i64 0, .slice none 0 0] 39)).alloc (.cells #[.int .i64 0] 3)).alloc (.cells #[ptr Ua.heap.size] 24)) (wgb.heap.size + 1 + 1) 24 (ptr Ua.heap.size) := by
      have := Boxed.new ((wgb.alloc (.cells #[.int .i64 0, .slice none 0 0] 39)).alloc (.cells #[.int .i64 0] 3)) 24 (ptr Ua.heap.size)
      simpa using this
    have nVb : Boxed (((wgb.alloc (.cells #[.int .i64 0, .slice none 0 0] 39)).alloc (.cells #[.int .i64 0] 3)).alloc (.cells #[ptr Ua.heap.size] 24)) (wgb.heap.size + 1) 3 (.int .i64 0) := by
      have := (Boxed.new (wgb.alloc (.cells #[.int .i64 0, .slice none 0 0] 39)) 3 (.int .i64 0)).alloc (.cells #[ptr Ua.heap.size] 24)
      simpa using this
    obtain ⟨Vb, hV⟩ : ∃ V, ((wgb.alloc (.cells #[.int .i64 0, .slice none 0 0] 39)).alloc (.cells #[.int .i64 0] 3)).alloc (.cells #[ptr Ua.heap.size] 24) = V := ⟨_, rfl⟩
    rw [hV] at BVb bVb nVb ⊢
    clear hV
    refine wpIn_rangeFunc_ownH rfl (by omega) (gf := 22) (lb := #[ptr (wgb.heap.size + 1 + 1)]) rfl trivial (enters_of Try.func22 (by kernel_rfl) rfl)
      (nob_stops (10 - 1) (wgb.heap.size + 1 + 1) 0 _ Vb bVb (HNb Vb BVb).out) kB_t (kB_b bVb.lt) (Below.refl _ _) (fun _ => rfl)
      (fun pre W => Below Vb.heap.size Vb W) (fun c pre W => False) (ownFrom_below (Nat.le_refl _) (Nat.le_refl _)) (fun c => ownFrom_pure _ _) (Below.refl _ _)
      (fun q a' W => True) (fun q a' _ X Y row hs hg hr => hs) ?assignb ?bodyb ?doneb ?stopb
    case assignb =>
      rintro l pre q W K hI hK
      gi_wp2
      exact hK _ _ (KeepsFrom.refl _ _) rfl hI trivial
    case bodyb =>
      rintro l pre q a' W hl hr hI hA hlt
      exact absurd hlt (Nat.not_lt_zero _)
    case stopb =>
      rintro D c pre W hD hpre hIx hK
      exact hIx.elim
    case doneb =>
      rintro Db xs Ub hDb hxs hU hKb
      have BUb : Below Wb.heap.size Wb Ub := bt BVb hU
      have zn := (boxed_upto nVb hU nVb.lt).cell
      have HLn := hide (nob_len (HNb Ub BUb).out)
      gi_wp2_with (refine ⟨trivial, ?_⟩; gi_at_call 15; refine (callsIn_wide.2 HLn.out).mono ?_; rintro e wlb ⟨rfl, hwl⟩; rw [hwl]; clear hwl)
      rw [roundsIn_succ]
      gi_wp2_with (refine ⟨trivial, ?_⟩; gi_at_call 6; refine (callsIn_wide.2 (awake_any _)).mono ?_; rintro e w7 ⟨rfl, hb7⟩)
      have hBW : Below Wb.heap.size Wb w7 := bt BUb hb7
      have hDlt := (Array.getElem?_eq_some_iff.1 hKD).1
      have hD10 := (hBW.block Da hDlt).trans hKD
      have hDb10 := (hb7.block Db (Array.getElem?_eq_some_iff.1 hKb).1).trans hKb
      have hVlt := BVb.size
      refine ⟨by simp, .inl ⟨_, _, rfl, run_takeDeferred hDb10, ?_⟩⟩
      have hKC := ((grownBy_putObj' w7 Db (.deferred none)).block Da (Array.getElem?_eq_some_iff.1 hD10).1 (fun e => by cases e; omega)).trans hD10
      refine ⟨by simp, .inl ⟨_, _, rfl, run_takeDeferred hKC, ?_⟩⟩
      have hw0 := B0.size
      have hBX := BVa.size
      have hBWb := BWb.size
      have hB10 : Below w.heap.size w w7 := bt (bt B0 BWb) hBW
      refine ⟨.bool true, ?_, rfl, (hB10.trans (belowK_b (w := w) (Nat.le_refl _) _ Db _ _ (by omega) hDb10 rfl rfl)).trans (belowK_b (w := w) (Nat.le_refl _) _ Da _ _ (by omega) hKC rfl rfl)⟩
      simp [results, Try.f5, go_sem]
end Go.Proofs.Ytihjmgdihpeffaa
