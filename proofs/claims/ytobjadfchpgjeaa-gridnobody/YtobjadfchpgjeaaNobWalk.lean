/-
  phalanxlaw04.GridNobody, walked.
-/
import Derived.Test.YtobjadfchpgjeaaNob
import Derived.Test.YtobjadfchpgjeaaAwake
namespace Go.Proofs.Ytobjadfchpgjeaa
open Go.RowKit Go.Shelf
set_option linter.unusedVariables false
attribute [local go_sem] Oper.semAt_some
abbrev encB (t : Bd) : Array Value := #[t.v]
set_option maxRecDepth 100000 in
set_option maxHeartbeats 1000000 in
theorem nob_stops (n B N : Nat) (v : Value) (w : World) (hB : Boxed w B 27 v) (h : Nob w v) :
    SeqStopsK Fence.wide n Try.prog 54 #[ptr B] encB (KB B) (fun xs => xs = []) (fun pre => pre = []) N w := fun l J Jx W hW hJ hJx hY h0 => by
  have cB := (boxed_upto hB hW hB.lt).cell
  have HM := hide (nob_made (h.kept hW))
  refine callsIn_of_wp Try.func54 rfl trivial ?_ rfl
  simp only [Try.ntmps54, List.size_toArray, List.length_cons, List.length_nil, Nat.reduceAdd, Nat.reduceSub, Array.replicate_succ, Array.replicate_zero, List.push_toArray, List.append_toArray, List.nil_append, List.cons_append]
  gi_wp2_with fail
  refine ⟨trivial, fun h => (by cases h), ?_⟩
  refine (callsIn_wide.2 HM.out).mono ?_
  rintro e w1 ⟨rfl, rfl⟩
  gi_wp2_with fail
  refine bodyPost_ret (results_none rfl _ _ _) rfl ?_
  exact ⟨⟨_, rfl⟩, .inl ⟨[], rfl, h0⟩⟩
theorem nf (p : Option Addr) (w : World) : Sem.run Try.prog (binOp BinOp.eql 74 (.func (.func 54) #[] #[.pointer p]) .nilFunc) w = .ok (.bool false) w := by kernel_rfl
theorem field_tiles (w : World) : (Instr.field 25 (.agg #[.int .i64 0, .int .i64 0, .slice none 0 0, .slice none 0 0]) 2).run Try.prog w = .ok (.slice none 0 0) w := by kernel_rfl
set_option maxRecDepth 100000 in
set_option maxHeartbeats 4000000 in
theorem nobody_walk (t : Bd) (w : World) : Calls Try.prog 7 #[t.v] w fun e w' => e = .returned (.bool true) ∧ Below w.heap.size w w' := by
  have q1 := nf
  have q2 := field_tiles
  refine (callsIn_wide (n := 10)).1 ?_
  refine callsIn_of_wp_marks Try.func7 rfl trivial ?_ rfl
  simp only [Try.ntmps7, List.size_toArray, List.length_cons, List.length_nil, Nat.reduceAdd, Nat.reduceSub, Array.replicate_succ, Array.replicate_zero, List.push_toArray, List.append_toArray, List.nil_append, List.cons_append]
  have B0 : Below w.heap.size w ((w.alloc (.cells #[.int .i64 t.id, .int .i64 t.x, .int .i64 t.y, .int .i64 t.a, .int .i64 t.b] 55)).alloc (.cells #[.bool false] 4)) := box2 _ _ _
  have F0 : Five ((w.alloc (.cells #[.int .i64 t.id, .int .i64 t.x, .int .i64 t.y, .int .i64 t.a, .int .i64 t.b] 55)).alloc (.cells #[.bool false] 4)) w.heap.size t := Five.kept (S := NoB) (heap_alloc_new w _) (Turns.of_below (box1 _ _)) id
  have R0 : Boxed ((w.alloc (.cells #[.int .i64 t.id, .int .i64 t.x, .int .i64 t.y, .int .i64 t.a, .int .i64 t.b] 55)).alloc (.cells #[.bool false] 4)) (w.heap.size + 1) 4 (.bool false) := by
    have := Boxed.new (w.alloc (.cells #[.int .i64 t.id, .int .i64 t.x, .int .i64 t.y, .int .i64 t.a, .int .i64 t.b] 55)) 4 (.bool false)
    simpa using this
  gi_wp2_with fail
  obtain ⟨W0, hW0⟩ : ∃ W0, (w.alloc (.cells #[.int .i64 t.id, .int .i64 t.x, .int .i64 t.y, .int .i64 t.a, .int .i64 t.b] 55)).alloc (.cells #[.bool false] 4) = W0 := ⟨_, rfl⟩
  rw [hW0] at B0 F0 R0 ⊢
  clear hW0
  have HZ : ∀ wx, Below W0.heap.size W0 wx → wx.cell? ⟨w.heap.size, 0, none⟩ = some (.int .i64 t.id) ∧ wx.cell? ⟨w.heap.size, 1, none⟩ = some (.int .i64 t.x) ∧ wx.cell? ⟨w.heap.size, 2, none⟩ = some (.int .i64 t.y) ∧ wx.cell? ⟨w.heap.size, 3, none⟩ = some (.int .i64 t.a) ∧ wx.cell? ⟨w.heap.size, 4, none⟩ = some (.int .i64 t.b) ∧ w.heap.size < wx.heap.size := fun wx hx => by
    have F := F0.kept (Turns.of_below (S := NoB) hx) id
    exact ⟨F.c 0, F.c 1, F.c 2, F.c 3, F.c 4, (Array.getElem?_eq_some_iff.1 F).1⟩
  obtain ⟨z0, z1, z2, z3, z4, zl⟩ := HZ W0 (Below.refl _ _)
  refine wpIn_loop_rounds 3 ?_
  rw [roundsIn_succ]
  have HN : ∀ wx, Below W0.heap.size W0 wx → Hid (Nob wx (.pointer none)) := fun wx hx => .inl rfl
  have HB0 := Below.refl W0.heap.size W0
  gi_wp2_with (first | (refine ⟨trivial, ?_⟩; gi_at_call 11; refine (callsIn_wide.2 (nob_terrain _ _ (HN _ (by first | assumption | exact bt (by assumption) (box1 _ _) | exact bt (by assumption) (box2 _ _ _))).out)).mono ?_; rintro e w11 ⟨rfl, hb⟩; have HB11 := bt (show Below W0.heap.size W0 _ from (by first | assumption | exact bt (by assumption) (box1 _ _) | exact bt (by assumption) (box2 _ _ _))) hb; clear hb; obtain ⟨z0, z1, z2, z3, z4, zl⟩ := HZ w11 HB11)  | (refine ⟨trivial, ?_⟩; gi_at_call 13; refine (callsIn_wide.2 (nob_at _ _ (HN _ (by first | assumption | exact bt (by assumption) (box1 _ _) | exact bt (by assumption) (box2 _ _ _))).out)).mono ?_; rintro e w13 ⟨rfl, hb⟩; have HB13 := bt (show Below W0.heap.size W0 _ from (by first | assumption | exact bt (by assumption) (box1 _ _) | exact bt (by assumption) (box2 _ _ _))) hb; clear hb; obtain ⟨z0, z1, z2, z3, z4, zl⟩ := HZ w13 HB13)  | (refine ⟨trivial, ?_⟩; gi_at_call 15; refine (callsIn_wide.2 (nob_find _ (HN _ (by first | assumption | exact bt (by assumption) (box1 _ _) | exact bt (by assumption) (box2 _ _ _))).out)).mono ?_; rintro e w15 ⟨rfl, hb⟩; have HB15 := bt (show Below W0.heap.size W0 _ from (by first | assumption | exact bt (by assumption) (box1 _ _) | exact bt (by assumption) (box2 _ _ _))) hb; clear hb; obtain ⟨z0, z1, z2, z3, z4, zl⟩ := HZ w15 HB15)  | (refine ⟨trivial, ?_⟩; gi_at_call 22; refine (callsIn_wide.2 (nob_raze _ (HN _ (by first | assumption | exact bt (by assumption) (box1 _ _) | exact bt (by assumption) (box2 _ _ _))).out)).mono ?_; rintro e w22 ⟨rfl, hb⟩; have HB22 := bt (show Below W0.heap.size W0 _ from (by first | assumption | exact bt (by assumption) (box1 _ _) | exact bt (by assumption) (box2 _ _ _))) hb; clear hb; obtain ⟨z0, z1, z2, z3, z4, zl⟩ := HZ w22 HB22)  | (refine ⟨trivial, ?_⟩; gi_at_call 23; refine (callsIn_wide.2 (nob_place t (HN _ (by first | assumption | exact bt (by assumption) (box1 _ _) | exact bt (by assumption) (box2 _ _ _))).out)).mono ?_; rintro e w23 ⟨rfl, hb⟩; have HB23 := bt (show Below W0.heap.size W0 _ from (by first | assumption | exact bt (by assumption) (box1 _ _) | exact bt (by assumption) (box2 _ _ _))) hb; clear hb; obtain ⟨z0, z1, z2, z3, z4, zl⟩ := HZ w23 HB23)  | (refine ⟨trivial, ?_⟩; gi_at_call 28; refine (callsIn_wide.2 (nob_may t (HN _ (by first | assumption | exact bt (by assumption) (box1 _ _) | exact bt (by assumption) (box2 _ _ _))).out)).mono ?_; rintro e w28 ⟨rfl, hb⟩; have HB28 := bt (show Below W0.heap.size W0 _ from (by first | assumption | exact bt (by assumption) (box1 _ _) | exact bt (by assumption) (box2 _ _ _))) hb; clear hb; obtain ⟨z0, z1, z2, z3, z4, zl⟩ := HZ w28 HB28)  | (refine ⟨trivial, ?_⟩; gi_at_call 29; refine (callsIn_wide.2 (nob_all (HN _ (by first | assumption | exact bt (by assumption) (box1 _ _) | exact bt (by assumption) (box2 _ _ _))).out)).mono ?_; rintro e w29 ⟨rfl, hb⟩; have HB29 := bt (show Below W0.heap.size W0 _ from (by first | assumption | exact bt (by assumption) (box1 _ _) | exact bt (by assumption) (box2 _ _ _))) hb; clear hb; obtain ⟨z0, z1, z2, z3, z4, zl⟩ := HZ w29 HB29)  | (refine ⟨trivial, ?_⟩; gi_at_call 25; refine (callsIn_wide.2 (nob_epoch (HN _ (by first | assumption | exact bt (by assumption) (box1 _ _) | exact bt (by assumption) (box2 _ _ _))).out)).mono ?_; rintro e w25 ⟨rfl, hb⟩; have HB25 := bt (show Below W0.heap.size W0 _ from (by first | assumption | exact bt (by assumption) (box1 _ _) | exact bt (by assumption) (box2 _ _ _))) hb; clear hb; obtain ⟨z0, z1, z2, z3, z4, zl⟩ := HZ w25 HB25)  | (refine ⟨trivial, ?_⟩; gi_at_call 18; refine (callsIn_wide.2 (nob_dirty (HN _ (by first | assumption | exact bt (by assumption) (box1 _ _) | exact bt (by assumption) (box2 _ _ _))).out)).mono ?_; rintro e w18 ⟨rfl, hb⟩; have HB18 := bt (show Below W0.heap.size W0 _ from (by first | assumption | exact bt (by assumption) (box1 _ _) | exact bt (by assumption) (box2 _ _ _))) hb; clear hb; obtain ⟨z0, z1, z2, z3, z4, zl⟩ := HZ w18 HB18)  | (refine ⟨trivial, ?_⟩; gi_at_call 20; refine (callsIn_wide.2 (nob_copy (HN _ (by first | assumption | exact bt (by assumption) (box1 _ _) | exact bt (by assumption) (box2 _ _ _))).out)).mono ?_; rintro e w20 ⟨rfl, hb⟩; have HB20 := bt (show Below W0.heap.size W0 _ from (by first | assumption | exact bt (by assumption) (box1 _ _) | exact bt (by assumption) (box2 _ _ _))) hb; clear hb; obtain ⟨z0, z1, z2, z3, z4, zl⟩ := HZ w20 HB20)  | (refine ⟨trivial, ?_⟩; gi_at_call 21; refine (callsIn_wide.2 (nob_map (HN _ (by first | assumption | exact bt (by assumption) (box1 _ _) | exact bt (by assumption) (box2 _ _ _))).out)).mono ?_; rintro e w21 ⟨rfl, hb⟩; have HB21 := bt (show Below W0.heap.size W0 _ from (by first | assumption | exact bt (by assumption) (box1 _ _) | exact bt (by assumption) (box2 _ _ _))) hb; clear hb; obtain ⟨z0, z1, z2, z3, z4, zl⟩ := HZ w21 HB21)  | (refine ⟨trivial, ?_⟩; gi_at_call 30; refine (callsIn_wide.2 (nob_buildings (HN _ (by first | assumption | exact bt (by assumption) (box1 _ _) | exact bt (by assumption) (box2 _ _ _))).out)).mono ?_; rintro e w30 ⟨rfl, rfl⟩))
  have BX : Below W0.heap.size W0 ((w21.alloc (.cells #[.pointer none] 27)).alloc (.cells #[.pointer none] 27)) := bt HB21 (box2 _ _ _)
  have bX : Boxed ((w21.alloc (.cells #[.pointer none] 27)).alloc (.cells #[.pointer none] 27)) (w21.heap.size + 1) 27 (.pointer none) := by
    have := Boxed.new (w21.alloc (.cells #[.pointer none] 27)) 27 (.pointer none)
    simpa using this
  obtain ⟨V, hV⟩ : ∃ V, (w21.alloc (.cells #[.pointer none] 27)).alloc (.cells #[.pointer none] 27) = V := ⟨_, rfl⟩
  rw [hV] at BX bX ⊢
  clear hV
  refine wpIn_rangeFunc_ownH rfl (by omega) (gf := 54) (lb := #[ptr (w21.heap.size + 1)]) rfl trivial (enters_of Try.func54 (by kernel_rfl) rfl)
    (nob_stops (10 - 1) (w21.heap.size + 1) 1 _ V bX (HN V BX).out) kB_t (kB_b bX.lt) (Below.refl _ _) (fun _ => rfl)
    (fun pre W => Below V.heap.size V W) (fun c pre W => c = .ret ∧ pre ≠ []) (ownFrom_below (Nat.le_refl _) (Nat.le_refl _)) (fun c => ownFrom_pure _ _) (Below.refl _ _)
    (fun q a' W => a'.tmps[2]? = some (ptr (w.heap.size + 1))) (fun q a' _ X Y row hs hg hr => hs) ?assign ?body ?done ?stop
  case assign =>
    rintro l pre q W K hI hK
    gi_wp2
    exact hK _ _ (KeepsFrom.refl _ _) rfl hI (by first | rfl | simp [encB])
  case body =>
    rintro l pre q a' W hl ⟨r, hr⟩ hI hA hlt
    have bR := boxed_upto (boxed_upto R0 (bt (Below.refl _ _) BX) R0.lt) hI (Nat.lt_of_lt_of_le R0.lt (bt (Below.refl _ _) BX).size)
    have cR := bR.cell
    have fR := bR.frozen
    gi_wp2_with fail
    exact ⟨(KeepsOthers.setCell _ _ _).from _, rfl, by simp⟩
  case stop =>
    rintro D c pre W hD hpre hIx hK
    exact absurd hpre hIx.2
  case done =>
    rintro D xs W hD hxs hI hK
    gi_wp2_with fail
    rw [roundsIn_succ]
    have BU : Below W0.heap.size W0 W := bt BX hI
    obtain ⟨Wb, hWb⟩ : ∃ Wb, W.alloc (.cells #[.int .i64 0, .int .i64 0, .int .i64 0, .int .i64 0, .slice none 0 0, .slice none 0 0, .map none, .slice none 0 0] 71) = Wb := ⟨_, rfl⟩
    have BWb : Below W0.heap.size W0 Wb := by rw [← hWb]; exact bt BU (box1 _ _)
    have HZb : ∀ wx, Below Wb.heap.size Wb wx → _ := fun wx hx => HZ wx (bt BWb hx)
    have hNb : Wb.heap[W.heap.size]? = some (.cells #[.int .i64 0, .int .i64 0, .int .i64 0, .int .i64 0, .slice none 0 0, .slice none 0 0, .map none, .slice none 0 0] 71 (0, 0)) := by rw [← hWb]; exact heap_alloc_new W _
    have HNb : ∀ wx, Below Wb.heap.size Wb wx → Hid (Nob wx (ptr W.heap.size)) := fun wx hx => .inr ⟨_, rfl, (hx.block _ (Array.getElem?_eq_some_iff.1 hNb).1).trans hNb⟩
    obtain ⟨z0, z1, z2, z3, z4, zl⟩ := HZb Wb (Below.refl _ _)
    have HBb0 := Below.refl Wb.heap.size Wb
    have hKD : Wb.heap[D]? = some (.deferred (some [])) := by rw [← hWb]; exact (Below.heap_alloc W _ D (Array.getElem?_eq_some_iff.1 hK).1).trans hK
    gi_wp2_with (first | (refine ⟨trivial, ?_⟩; gi_at_call 11; refine (callsIn_wide.2 (nob_terrain _ _ (HNb _ (by first | assumption | exact bt (by assumption) (box1 _ _) | exact bt (by assumption) (box2 _ _ _))).out)).mono ?_; rintro e w11b ⟨rfl, hb⟩; have HB11b := bt (show Below Wb.heap.size Wb _ from (by first | assumption | exact bt (by assumption) (box1 _ _) | exact bt (by assumption) (box2 _ _ _))) hb; clear hb; obtain ⟨z0, z1, z2, z3, z4, zl⟩ := HZb w11b HB11b)  | (refine ⟨trivial, ?_⟩; gi_at_call 13; refine (callsIn_wide.2 (nob_at _ _ (HNb _ (by first | assumption | exact bt (by assumption) (box1 _ _) | exact bt (by assumption) (box2 _ _ _))).out)).mono ?_; rintro e w13b ⟨rfl, hb⟩; have HB13b := bt (show Below Wb.heap.size Wb _ from (by first | assumption | exact bt (by assumption) (box1 _ _) | exact bt (by assumption) (box2 _ _ _))) hb; clear hb; obtain ⟨z0, z1, z2, z3, z4, zl⟩ := HZb w13b HB13b)  | (refine ⟨trivial, ?_⟩; gi_at_call 15; refine (callsIn_wide.2 (nob_find _ (HNb _ (by first | assumption | exact bt (by assumption) (box1 _ _) | exact bt (by assumption) (box2 _ _ _))).out)).mono ?_; rintro e w15b ⟨rfl, hb⟩; have HB15b := bt (show Below Wb.heap.size Wb _ from (by first | assumption | exact bt (by assumption) (box1 _ _) | exact bt (by assumption) (box2 _ _ _))) hb; clear hb; obtain ⟨z0, z1, z2, z3, z4, zl⟩ := HZb w15b HB15b)  | (refine ⟨trivial, ?_⟩; gi_at_call 22; refine (callsIn_wide.2 (nob_raze _ (HNb _ (by first | assumption | exact bt (by assumption) (box1 _ _) | exact bt (by assumption) (box2 _ _ _))).out)).mono ?_; rintro e w22b ⟨rfl, hb⟩; have HB22b := bt (show Below Wb.heap.size Wb _ from (by first | assumption | exact bt (by assumption) (box1 _ _) | exact bt (by assumption) (box2 _ _ _))) hb; clear hb; obtain ⟨z0, z1, z2, z3, z4, zl⟩ := HZb w22b HB22b)  | (refine ⟨trivial, ?_⟩; gi_at_call 23; refine (callsIn_wide.2 (nob_place t (HNb _ (by first | assumption | exact bt (by assumption) (box1 _ _) | exact bt (by assumption) (box2 _ _ _))).out)).mono ?_; rintro e w23b ⟨rfl, hb⟩; have HB23b := bt (show Below Wb.heap.size Wb _ from (by first | assumption | exact bt (by assumption) (box1 _ _) | exact bt (by assumption) (box2 _ _ _))) hb; clear hb; obtain ⟨z0, z1, z2, z3, z4, zl⟩ := HZb w23b HB23b)  | (refine ⟨trivial, ?_⟩; gi_at_call 28; refine (callsIn_wide.2 (nob_may t (HNb _ (by first | assumption | exact bt (by assumption) (box1 _ _) | exact bt (by assumption) (box2 _ _ _))).out)).mono ?_; rintro e w28b ⟨rfl, hb⟩; have HB28b := bt (show Below Wb.heap.size Wb _ from (by first | assumption | exact bt (by assumption) (box1 _ _) | exact bt (by assumption) (box2 _ _ _))) hb; clear hb; obtain ⟨z0, z1, z2, z3, z4, zl⟩ := HZb w28b HB28b)  | (refine ⟨trivial, ?_⟩; gi_at_call 29; refine (callsIn_wide.2 (nob_all (HNb _ (by first | assumption | exact bt (by assumption) (box1 _ _) | exact bt (by assumption) (box2 _ _ _))).out)).mono ?_; rintro e w29b ⟨rfl, hb⟩; have HB29b := bt (show Below Wb.heap.size Wb _ from (by first | assumption | exact bt (by assumption) (box1 _ _) | exact bt (by assumption) (box2 _ _ _))) hb; clear hb; obtain ⟨z0, z1, z2, z3, z4, zl⟩ := HZb w29b HB29b)  | (refine ⟨trivial, ?_⟩; gi_at_call 25; refine (callsIn_wide.2 (nob_epoch (HNb _ (by first | assumption | exact bt (by assumption) (box1 _ _) | exact bt (by assumption) (box2 _ _ _))).out)).mono ?_; rintro e w25b ⟨rfl, hb⟩; have HB25b := bt (show Below Wb.heap.size Wb _ from (by first | assumption | exact bt (by assumption) (box1 _ _) | exact bt (by assumption) (box2 _ _ _))) hb; clear hb; obtain ⟨z0, z1, z2, z3, z4, zl⟩ := HZb w25b HB25b)  | (refine ⟨trivial, ?_⟩; gi_at_call 18; refine (callsIn_wide.2 (nob_dirty (HNb _ (by first | assumption | exact bt (by assumption) (box1 _ _) | exact bt (by assumption) (box2 _ _ _))).out)).mono ?_; rintro e w18b ⟨rfl, hb⟩; have HB18b := bt (show Below Wb.heap.size Wb _ from (by first | assumption | exact bt (by assumption) (box1 _ _) | exact bt (by assumption) (box2 _ _ _))) hb; clear hb; obtain ⟨z0, z1, z2, z3, z4, zl⟩ := HZb w18b HB18b)  | (refine ⟨trivial, ?_⟩; gi_at_call 20; refine (callsIn_wide.2 (nob_copy (HNb _ (by first | assumption | exact bt (by assumption) (box1 _ _) | exact bt (by assumption) (box2 _ _ _))).out)).mono ?_; rintro e w20b ⟨rfl, hb⟩; have HB20b := bt (show Below Wb.heap.size Wb _ from (by first | assumption | exact bt (by assumption) (box1 _ _) | exact bt (by assumption) (box2 _ _ _))) hb; clear hb; obtain ⟨z0, z1, z2, z3, z4, zl⟩ := HZb w20b HB20b)  | (refine ⟨trivial, ?_⟩; gi_at_call 21; refine (callsIn_wide.2 (nob_map (HNb _ (by first | assumption | exact bt (by assumption) (box1 _ _) | exact bt (by assumption) (box2 _ _ _))).out)).mono ?_; rintro e w21b ⟨rfl, hb⟩; have HB21b := bt (show Below Wb.heap.size Wb _ from (by first | assumption | exact bt (by assumption) (box1 _ _) | exact bt (by assumption) (box2 _ _ _))) hb; clear hb; obtain ⟨z0, z1, z2, z3, z4, zl⟩ := HZb w21b HB21b)  | (refine ⟨trivial, ?_⟩; gi_at_call 30; refine (callsIn_wide.2 (nob_buildings (HNb _ (by first | assumption | exact bt (by assumption) (box1 _ _) | exact bt (by assumption) (box2 _ _ _))).out)).mono ?_; rintro e w30b ⟨rfl, rfl⟩))
    clear hWb
    have BXb : Below Wb.heap.size Wb ((w21b.alloc (.cells #[ptr W.heap.size] 27)).alloc (.cells #[ptr W.heap.size] 27)) := bt HB21b (box2 _ _ _)
    have bXb : Boxed ((w21b.alloc (.cells #[ptr W.heap.size] 27)).alloc (.cells #[ptr W.heap.size] 27)) (w21b.heap.size + 1) 27 (ptr W.heap.size) := by
      have := Boxed.new (w21b.alloc (.cells #[ptr W.heap.size] 27)) 27 (ptr W.heap.size)
      simpa using this
    obtain ⟨Vb, hVb⟩ : ∃ V, (w21b.alloc (.cells #[ptr W.heap.size] 27)).alloc (.cells #[ptr W.heap.size] 27) = V := ⟨_, rfl⟩
    rw [hVb] at BXb bXb ⊢
    clear hVb
    refine wpIn_rangeFunc_ownH rfl (by omega) (gf := 54) (lb := #[ptr (w21b.heap.size + 1)]) rfl trivial (enters_of Try.func54 (by kernel_rfl) rfl)
      (nob_stops (10 - 1) (w21b.heap.size + 1) 1 _ Vb bXb (HNb Vb BXb).out) kB_t (kB_b bXb.lt) (Below.refl _ _) (fun _ => rfl)
      (fun pre W => Below Vb.heap.size Vb W) (fun c pre W => c = .ret ∧ pre ≠ []) (ownFrom_below (Nat.le_refl _) (Nat.le_refl _)) (fun c => ownFrom_pure _ _) (Below.refl _ _)
      (fun q a' W => a'.tmps[2]? = some (ptr (w.heap.size + 1))) (fun q a' _ X Y row hs hg hr => hs) ?assignb ?bodyb ?doneb ?stopb
    case assignb =>
      rintro l pre q W K hI hK
      gi_wp2
      exact hK _ _ (KeepsFrom.refl _ _) rfl hI (by first | rfl | simp [encB])
    case bodyb =>
      rintro l pre q a' W hl ⟨r, hr⟩ hI hA hlt
      have bR := boxed_upto (boxed_upto R0 (bt BWb BXb) R0.lt) hI (Nat.lt_of_lt_of_le R0.lt (bt BWb BXb).size)
      have cR := bR.cell
      have fR := bR.frozen
      gi_wp2_with fail
      exact ⟨(KeepsOthers.setCell _ _ _).from _, rfl, by simp⟩
    case stopb =>
      rintro D c pre W hD hpre hIx hK
      exact absurd hpre hIx.2
    case doneb =>
      rintro Db xs Wb2 hDb hxs hIb hKb
      gi_wp2_with fail
      rw [roundsIn_succ]
      have BU2 : Below W0.heap.size W0 Wb2 := bt (bt BWb BXb) hIb
      gi_wp2_with (refine ⟨trivial, ?_⟩; gi_at_call 10; refine (callsIn_wide.2 (awake_any _)).mono ?_; rintro e w10 ⟨rfl, hb10⟩; have bR := boxed_upto R0 (bt BU2 hb10) R0.lt; have cR := bR.cell; have fR := bR.frozen)
      have hBW : Below Wb.heap.size Wb w10 := bt (bt BXb hIb) hb10
      have hDlt := (Array.getElem?_eq_some_iff.1 hKD).1
      have hD10 := (hBW.block D hDlt).trans hKD
      have hDb10 := (hb10.block Db (Array.getElem?_eq_some_iff.1 hKb).1).trans hKb
      have hVlt := BXb.size
      have hKA := (KeepsOthers.setCell w10 ⟨w.heap.size + 1, 0, none⟩ (.bool true)).same Db _ hDb10 rfl
      have hKB := (KeepsOthers.setCell w10 ⟨w.heap.size + 1, 0, none⟩ (.bool true)).same D _ hD10 rfl
      refine ⟨by simp, .inl ⟨_, _, rfl, run_takeDeferred hKA, ?_⟩⟩
      have hKC := ((grownBy_putObj' (w10.setCell ⟨w.heap.size + 1, 0, none⟩ (.bool true)) Db (.deferred none)).block D (Array.getElem?_eq_some_iff.1 hKB).1 (fun e => by cases e; omega)).trans hKB
      refine ⟨by simp, .inl ⟨_, _, rfl, run_takeDeferred hKC, ?_⟩⟩
      have hc4 := cell_kept (bR.set (.bool true)).cell (grownBy_putObj' _ Db (.deferred none)) (fun r e => by cases e; exact ⟨_, hKA, rfl⟩)
      have hc5 := cell_kept hc4 (grownBy_putObj' _ D (.deferred none)) (fun r e => by cases e; exact ⟨_, hKC, rfl⟩)
      have hw0 := B0.size
      have hR0 := R0.lt
      have hBX := BX.size
      have hB10 : Below w.heap.size w w10 := bt (bt B0 BU2) hb10
      refine ⟨.bool true, ?_, rfl, ((hB10.setCell (p := ⟨w.heap.size + 1, 0, none⟩) (by simp) _).trans (belowK_b (w := w) (Nat.le_refl _) _ Db _ _ (by omega) hKA rfl rfl)).trans (belowK_b (w := w) (Nat.le_refl _) _ D _ _ (by omega) hKC rfl rfl)⟩
      simp [results, Try.f7, go_sem, hc5]
end Go.Proofs.Ytobjadfchpgjeaa
